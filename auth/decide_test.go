package auth_test

import (
	"maps"
	"math/rand"
	"reflect"
	"slices"
	"strconv"
	"strings"
	"testing"

	"lictor/api"
	"lictor/auth"
	"lictor/entity"
	"lictor/eval"
	"lictor/expr"
	"lictor/policy"
)

// people are the entities of most tests.
func people(t *testing.T) []api.Entity {
	t.Helper()
	var l []api.Entity
	for _, s := range []string{`U::"a" in [G::"g"] {age: 3};`, `U::"b" {age: 9223372036854775807};`, `G::"g" in [G::"all"] {};`, `D::"d" {owner: U::"a", public: true};`} {
		e, why, _ := entity.Parse(s)
		if why == api.OK {
			l, why = entity.Put(l, e)
		}
		if why != api.OK {
			t.Fatalf("%q: error %d", s, why)
		}
	}
	return l
}

// visit is what U::"a" asks of D::"d", with a context's text.
func visit(t *testing.T, context string) api.Request {
	t.Helper()
	e, why, _ := expr.Parse(context)
	if why != api.OK {
		t.Fatalf("%q: error %d", context, why)
	}
	v, why := entity.Value(e)
	if why != api.OK {
		t.Fatalf("%q: error %d", context, why)
	}
	return api.Request{Principal: api.Uid{Type: "U", Id: "a"}, Action: api.Uid{Type: "Action", Id: "v"}, Resource: api.Uid{Type: "D", Id: "d"}, Context: v}
}

// by is the request of somebody else.
func by(q api.Request, id string) api.Request {
	q.Principal.Id = id
	return q
}

// Texts of policies that allow and forbid whatever is asked, hold of nothing, and come to errors.
const (
	permitAll  = `permit(principal, action, resource);`
	forbidAll  = `forbid(principal, action, resource);`
	permitNone = `permit(principal, action, resource) when { false };`
	forbidNone = `forbid(principal, action, resource) unless { true };`
	permitOver = `permit(principal, action, resource) when { 9223372036854775807 + 1 == 0 };`
	forbidOver = `forbid(principal, action, resource) when { 9223372036854775807 * 2 == 0 };`
	permitType = `permit(principal, action, resource) when { 1 };`
	forbidMiss = `forbid(principal, action, resource) when { context.none };`
	permitGone = `permit(principal, action, resource) when { U::"none".age == 1 };`
)

// Promise 15.2, and example 1: what is decided.
func TestDecide(t *testing.T) {
	l := people(t)
	q := visit(t, `{far: true}`)
	for name, c := range map[string]struct {
		policies []string
		q        api.Request
		allow    bool
		ids      string
		errors   string
	}{
		"no policy": {nil, q, false, "", ""},
		"example 1": {[]string{"forbids", forbidAll, "permits", permitAll}, q, false, "forbids", ""}, "example 1, turned": {[]string{"a permit", permitAll, "forbids", forbidAll}, q, false, "forbids", ""},
		"one that permits": {[]string{"p", permitAll}, q, true, "p", ""}, "one that forbids": {[]string{"p", forbidAll}, q, false, "p", ""}, "one that permits nothing": {[]string{"p", permitNone}, q, false, "", ""}, "one that forbids nothing": {[]string{"p", forbidNone}, q, false, "", ""}, "both of nothing": {[]string{"p", permitNone, "q", forbidNone}, q, false, "", ""},
		"all that permit": {[]string{"a", permitAll, "b", permitNone, "c", permitAll, "d", forbidNone, "e", permitAll}, q, true, "a,c,e", ""}, "all that forbid": {[]string{"a", permitAll, "b", forbidAll, "c", permitAll, "d", forbidNone, "e", forbidAll}, q, false, "b,e", ""}, "by bytes": {[]string{"B", permitAll, "a", permitAll, "b", permitAll, "ä", permitAll}, q, true, "B,a,b,ä", ""},
		"an error that permits": {[]string{"p", permitOver}, q, false, "", "p"}, "an error that forbids": {[]string{"p", forbidOver}, q, false, "", "p"}, "an error that forbids, and one that permits": {[]string{"p", forbidOver, "q", permitAll}, q, true, "q", "p"}, "an error that permits, and one that forbids": {[]string{"p", permitOver, "q", forbidAll}, q, false, "q", "p"}, "errors alone": {[]string{"a", permitOver, "b", permitType, "c", forbidMiss, "d", permitGone, "e", forbidOver}, q, false, "", "a,b,c,d,e"}, "errors among others": {[]string{"a", permitType, "b", permitAll, "c", forbidMiss, "d", permitNone, "e", permitAll, "f", forbidOver}, q, true, "b,e", "a,c,f"}, "errors, and both": {[]string{"a", forbidAll, "b", permitOver, "c", permitAll, "d", forbidMiss, "e", forbidAll}, q, false, "a,e", "b,d"},
		"who asks": {[]string{"p", `permit(principal == U::"a", action, resource);`}, q, true, "p", ""}, "who else asks": {[]string{"p", `permit(principal == U::"a", action, resource);`}, by(q, "b"), false, "", ""}, "within": {[]string{"p", `permit(principal in G::"all", action, resource);`}, q, true, "p", ""}, "not within": {[]string{"p", `permit(principal in G::"all", action, resource);`}, by(q, "b"), false, "", ""}, "another action": {[]string{"p", `permit(principal, action == Action::"w", resource);`}, q, false, "", ""}, "one of its actions": {[]string{"p", `permit(principal, action in [Action::"v", Action::"w"], resource is D);`}, q, true, "p", ""}, "the owner": {[]string{"p", `permit(principal, action, resource) when { resource.owner == principal && resource.public };`}, q, true, "p", ""}, "not the owner": {[]string{"p", `permit(principal, action, resource) when { resource.owner == principal && resource.public };`}, by(q, "b"), false, "", ""}, "from afar": {[]string{"p", permitAll, "q", `forbid(principal, action, resource) when { context.far };`}, q, false, "q", ""}, "from near": {[]string{"p", permitAll, "q", `forbid(principal, action, resource) when { context.far };`}, visit(t, `{far: false}`), true, "p", ""}, "from nowhere": {[]string{"p", permitAll, "q", `forbid(principal, action, resource) when { context.far };`}, visit(t, `{}`), true, "p", "q"}, "a number of one's own": {[]string{"p", `permit(principal, action, resource) when { principal.age + 1 > 0 };`}, q, true, "p", ""}, "too great a number": {[]string{"p", `permit(principal, action, resource) when { principal.age + 1 > 0 };`}, by(q, "b"), false, "", "p"}, "nobody": {[]string{"p", `permit(principal, action, resource) when { principal.age > 0 };`, "q", `permit(principal, action, resource);`}, by(q, "nobody"), true, "q", "p"}, "what is not looked at": {[]string{"p", `permit(principal == U::"b", action, resource) when { context.none };`, "q", `forbid(principal, action, resource) when { false } when { 1 };`}, q, false, "", ""},
	} {
		d, why := auth.Decide(row(t, c.policies...), c.q, l)
		if why != api.OK || d.Allow != c.allow || strings.Join(d.Ids, ",") != c.ids || strings.Join(d.Errors, ",") != c.errors {
			t.Errorf("%s: %v, error %d", name, d, why)
		}
	}
	if d, why := auth.Decide(row(t, "p", permitAll), q, nil); why != api.OK || !d.Allow {
		t.Errorf("of no entities: %v, error %d", d, why)
	}
}

// Promise 15.2, and P2: the row's error, the request's, that of the entities; and nothing beside one.
func TestErrorsOfDecideInOrder(t *testing.T) {
	right, q := row(t, "p", permitAll), visit(t, `{}`)
	type wrong struct {
		q    api.Request
		want api.Errno
	}
	var requests []wrong
	for _, u := range []struct {
		uid  api.Uid
		want api.Errno
	}{{api.Uid{Type: "in"}, api.ErrSyntax}, {api.Uid{Type: "U", Id: "\xff"}, api.ErrUtf}, {api.Uid{Type: "U", Id: strings.Repeat("i", 65)}, api.ErrLong}} {
		one, two, three := q, q, q
		one.Principal, two.Action, three.Resource = u.uid, u.uid, u.uid
		requests = append(requests, wrong{one, u.want}, wrong{two, u.want}, wrong{three, u.want})
	}
	none, deep := q, q
	none.Context = api.Value{}
	deep.Context = api.Value{Kind: api.KindRecord, Names: []string{"a"}, List: []api.Value{{Kind: api.KindBool}}}
	for range api.MaxNest {
		deep.Context = api.Value{Kind: api.KindRecord, Names: []string{"a"}, List: []api.Value{deep.Context}}
	}
	requests = append(requests, wrong{none, api.ErrType}, wrong{deep, api.ErrDepth})
	l := people(t)
	loop := []api.Entity{{Uid: api.Uid{Type: "A", Id: "1"}, Parents: []api.Uid{{Type: "A", Id: "2"}}, Attrs: api.Value{Kind: api.KindRecord}}, {Uid: api.Uid{Type: "A", Id: "2"}, Parents: []api.Uid{{Type: "A", Id: "1"}}, Attrs: api.Value{Kind: api.KindRecord}}}
	rows := map[api.Errno][]api.Entity{api.ErrMany: slices.Repeat(l, 17), api.ErrTwice: {l[0], l[1], l[1]}, api.ErrSyntax: {l[1], l[0]}, api.ErrType: {{Uid: l[0].Uid}}, api.ErrCycle: loop}
	for _, policies := range [][]api.Named{nil, right} {
		for _, c := range requests {
			for _, e := range append(slices.Collect(maps.Values(rows)), nil, l) {
				if d, why := auth.Decide(policies, c.q, e); why != c.want || !reflect.DeepEqual(d, api.Decision{}) {
					t.Errorf("%v: %v, error %d, not %d", c.q, d, why, c.want)
				}
			}
		}
		for want, e := range rows {
			if d, why := auth.Decide(policies, q, e); why != want || !reflect.DeepEqual(d, api.Decision{}) {
				t.Errorf("%v: %v, error %d, not %d", e, d, why, want)
			}
		}
	}
}

// holding are the Ids of the policies of a row that have an effect and hold of a request, in order.
func holding(l []api.Named, permit bool, q api.Request, e []api.Entity) []string {
	var ids []string
	for _, n := range l {
		body, _ := policy.Body(n.Policy)
		if holds, why := eval.Holds(body, q, e); n.Policy.Permit == permit && holds && why == api.OK {
			ids = append(ids, n.Id)
		}
	}
	return ids
}

// failing are the Ids of the policies of a row that come to an error, in order.
func failing(l []api.Named, q api.Request, e []api.Entity) []string {
	var ids []string
	for _, n := range l {
		body, _ := policy.Body(n.Policy)
		if _, why := eval.Eval(body, q, e); why != api.OK {
			ids = append(ids, n.Id)
		}
	}
	return ids
}

// pool are policies of all kinds.
func pool(t *testing.T) []api.Policy {
	var l []api.Policy
	for _, effect := range []string{"permit", "forbid"} {
		for _, rest := range []string{`(principal, action, resource);`, `(principal == U::"a", action, resource);`, `(principal in G::"g", action in [Action::"v"], resource is D);`, `(principal, action == Action::"w", resource);`, `(principal, action, resource) when { context.far };`, `(principal, action, resource) unless { context.far };`, `(principal, action, resource) when { principal.age + context.n > 3 };`, `(principal, action, resource) when { context.n * context.n < 100 };`, `(principal is U, action, resource) when { principal has age } when { principal.age < 10 };`, `(principal, action, resource) when { 1 };`, `(principal, action, resource) when { resource.owner == principal };`, `(principal, action, resource) when { false };`} {
			l = append(l, must(t, effect+rest))
		}
	}
	return l
}

// rowOf is a row by chance, of policies of a pool.
func rowOf(r *rand.Rand, pool []api.Policy) []api.Named {
	var l []api.Named
	for i := range r.Intn(8) {
		l = append(l, api.Named{Id: "p" + strconv.Itoa(10+2*i), Policy: pool[r.Intn(len(pool))]})
	}
	return l
}

// requestOf is a request by chance.
func requestOf(t *testing.T, r *rand.Rand) api.Request {
	contexts := []string{`{}`, `{far: true}`, `{far: false, n: 1}`, `{far: 1, n: 9223372036854775807}`, `{far: false, n: -5}`, `{n: 0}`}
	q := visit(t, contexts[r.Intn(len(contexts))])
	q.Principal.Id = []string{"a", "b", "none"}[r.Intn(3)]
	q.Action.Id = []string{"v", "w"}[r.Intn(2)]
	if r.Intn(3) == 0 {
		q.Resource = api.Uid{Type: "U", Id: "b"}
	}
	return q
}

// Promises 15.2 and 15.5: of rows and requests by chance, who decided holds, and all who hold of the same effect decided.
func TestJustThose(t *testing.T) {
	r, l, e := rand.New(rand.NewSource(155)), pool(t), people(t)
	seen := map[bool]int{}
	refused, errors := 0, 0
	for range 4000 {
		p, q := rowOf(r, l), requestOf(t, r)
		d, why := auth.Decide(p, q, e)
		want := api.Decision{Errors: failing(p, q, e), Ids: holding(p, false, q, e)}
		if len(want.Ids) == 0 {
			want.Ids = holding(p, true, q, e)
			want.Allow = len(want.Ids) > 0
		}
		if why != api.OK || !reflect.DeepEqual(d, want) {
			t.Fatalf("%v of %v: %v, error %d, not %v", q, p, d, why, want)
		}
		seen[d.Allow]++
		if !d.Allow && len(d.Ids) > 1 {
			refused++
		}
		if len(d.Errors) > 1 {
			errors++
		}
	}
	if seen[true] < 500 || seen[false] < 500 || refused < 200 || errors < 200 {
		t.Errorf("allowed %d times, not so %d times, by some that forbid %d times, beside errors %d times", seen[true], seen[false], refused, errors)
	}
}

// Promise 15.4: one that forbids, more, has nothing be allowed that was not; one that permits, more, has nothing be refused that was allowed.
func TestForbidFirst(t *testing.T) {
	r, l, e := rand.New(rand.NewSource(154)), pool(t), people(t)
	turned := map[bool]int{}
	for range 4000 {
		p, q := rowOf(r, l), requestOf(t, r)
		more := api.Named{Id: "p" + strconv.Itoa(9+2*r.Intn(9)), Policy: l[r.Intn(len(l))]}
		with, why := auth.Put(p, more)
		if why != api.OK {
			t.Fatalf("error %d", why)
		}
		before, _ := auth.Decide(p, q, e)
		after, _ := auth.Decide(with, q, e)
		if before.Allow != after.Allow && after.Allow != more.Policy.Permit {
			t.Fatalf("%v of %v and %v: %v, then %v", q, p, more, before, after)
		}
		if before.Allow != after.Allow {
			turned[after.Allow]++
		}
	}
	if turned[true] < 100 || turned[false] < 100 {
		t.Errorf("it turns to allowed %d times, to refused %d times", turned[true], turned[false])
	}
}

// Promise 15.3 of Decide, and P3: what is decided is new memory, its lists share none, and asked again it is the same; what is handed in is not changed.
func TestDecisionsAreNewMemory(t *testing.T) {
	policies := func() []api.Named {
		return row(t, "a", permitAll, "b", forbidOver, "c", permitAll, "d", permitType, "e", permitNone)
	}
	l, q, e := policies(), visit(t, `{far: true, n: 1}`), people(t)
	one, _ := auth.Decide(l, q, e)
	want := api.Decision{Allow: true, Ids: []string{"a", "c"}, Errors: []string{"b", "d"}}
	if !reflect.DeepEqual(one, want) {
		t.Fatalf("%v", one)
	}
	if shared(reflect.ValueOf(one)) {
		t.Error("two lists of the answer share memory")
	}
	two, _ := auth.Decide(l, q, e)
	spoil(reflect.ValueOf(one))
	if !reflect.DeepEqual(two, want) || !reflect.DeepEqual(l, policies()) || !reflect.DeepEqual(q, visit(t, `{far: true, n: 1}`)) || !reflect.DeepEqual(e, people(t)) {
		t.Error("an answer shares memory, or what was handed in is changed")
	}
	spoil(reflect.ValueOf(l))
	if !reflect.DeepEqual(two, want) {
		t.Error("what was handed in is kept")
	}
}

// P1: whatever is handed in.
func TestWhateverIsHandedIn(t *testing.T) {
	r := rand.New(rand.NewSource(1))
	scopes := []api.Scope{{}, {Kind: api.ScopeEqual}, {Kind: api.ScopeIn, Uids: make([]api.Uid, 3)}, {Kind: api.ScopeIs, Type: "in"}, {Kind: 200, Uids: make([]api.Uid, 1)}, {Kind: api.ScopeEqual, Uids: []api.Uid{{Type: "U", Id: "a"}}}}
	policies := []api.Policy{{}, noScope, tooMany, noExpr, tooDeep, tooWide, deepest, farRight, {Conds: []api.Cond{{Expr: api.Expr{Op: api.OpIf}}}}, {Conds: []api.Cond{{Expr: api.Expr{Op: api.OpRecord, Names: []string{"a", "a"}}}}}, {Conds: []api.Cond{{Expr: api.Expr{Op: 200, N: -1}}}}}
	ids := []string{"", "a", "b", "c", "\xff", strings.Repeat("i", 65), strings.Repeat("i", 1<<16)}
	far := api.Value{Kind: api.KindRecord}
	for range 1 << 16 {
		far = api.Value{Kind: api.KindSet, List: []api.Value{far}}
	}
	requests := []api.Request{{}, visit(t, `{}`), {Context: far}}
	rows := [][]api.Entity{nil, people(t), {{}, {}}, {{Attrs: far}}, make([]api.Entity, 70)}
	answers := map[api.Errno]int{}
	for range 3000 {
		var l []api.Named
		for range r.Intn(3) {
			p := policies[r.Intn(len(policies))]
			if r.Intn(3) == 0 {
				p.Principal, p.Action, p.Resource = scopes[r.Intn(len(scopes))], scopes[r.Intn(len(scopes))], scopes[r.Intn(len(scopes))]
			}
			l = append(l, api.Named{Id: ids[r.Intn(len(ids))], Policy: p})
		}
		n := api.Named{Id: ids[r.Intn(len(ids))], Policy: policies[r.Intn(len(policies))]}
		p, why := auth.Find(l, n.Id)
		if why != api.OK && !reflect.DeepEqual(p, api.Policy{}) {
			t.Fatalf("Find: %v, error %d", p, why)
		}
		put, no := auth.Put(l, n)
		if (no == api.OK) != (put != nil) {
			t.Fatalf("Put: %v, error %d", put, no)
		}
		drop, never := auth.Drop(l, n.Id)
		if never != api.OK && drop != nil {
			t.Fatalf("Drop: %v, error %d", drop, never)
		}
		d, neither := auth.Decide(l, requests[r.Intn(len(requests))], rows[r.Intn(len(rows))])
		if neither != api.OK && !reflect.DeepEqual(d, api.Decision{}) {
			t.Fatalf("Decide: %v, error %d", d, neither)
		}
		if wrong := auth.Check(l); wrong != api.OK && (why != wrong || no != wrong || never != wrong || neither != wrong) {
			t.Fatalf("errors %d, %d, %d, %d, not %d", why, no, never, neither, wrong)
		}
		for _, why := range []api.Errno{why, no, never, neither} {
			answers[why]++
		}
	}
	for _, why := range []api.Errno{api.OK, api.ErrMany, api.ErrLong, api.ErrDepth, api.ErrSyntax, api.ErrUtf, api.ErrUnknown, api.ErrTwice} {
		if answers[why] == 0 {
			t.Errorf("error %d never comes", why)
		}
	}
}
