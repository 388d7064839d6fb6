package auth_test

import (
	"math/rand"
	"reflect"
	"runtime"
	"slices"
	"strconv"
	"strings"
	"testing"

	"lictor/api"
	"lictor/auth"
	"lictor/policy"
)

// must is the policy of a text.
func must(t *testing.T, s string) api.Policy {
	t.Helper()
	p, why, place := policy.Parse(s)
	if why != api.OK {
		t.Fatalf("%q: error %d at %d", s, why, place)
	}
	return p
}

// row is policies as they stand, each given by its Id and its text.
func row(t *testing.T, l ...string) []api.Named {
	t.Helper()
	var out []api.Named
	for i := 0; i < len(l); i += 2 {
		out = append(out, api.Named{Id: l[i], Policy: must(t, l[i+1])})
	}
	return out
}

// named are policies of Ids as they stand, each without conditions.
func named(ids ...string) []api.Named {
	var out []api.Named
	for _, id := range ids {
		out = append(out, api.Named{Id: id})
	}
	return out
}

// many are n in order, the first one's Id being n100.
func many(n int) []api.Named {
	var ids []string
	for i := range n {
		ids = append(ids, "n"+strconv.Itoa(100+i))
	}
	return named(ids...)
}

// idsOf are the Ids of a row.
func idsOf(l []api.Named) []string {
	var ids []string
	for _, n := range l {
		ids = append(ids, n.Id)
	}
	return ids
}

// Policies that are not right, each for another reason.
var (
	noScope  = api.Policy{Principal: api.Scope{Kind: api.ScopeCount}}
	tooMany  = api.Policy{Conds: make([]api.Cond, api.MaxParts+1)}
	noExpr   = api.Policy{Conds: []api.Cond{{}}}
	tooDeep  = api.Policy{Conds: []api.Cond{{Expr: nested(api.MaxLevel)}}}
	tooWide  = api.Policy{Conds: []api.Cond{{Expr: wide(8)}}}
	deepest  = api.Policy{Conds: []api.Cond{{Expr: nested(api.MaxLevel - 1)}}}
	farRight = api.Policy{Conds: []api.Cond{{Expr: nested(1 << 16)}}}
)

// nested is an expression that is nested so deep.
func nested(deep int) api.Expr {
	e := api.Expr{Op: api.OpBool}
	for range deep - 1 {
		e = api.Expr{Op: api.OpNot, Kids: []api.Expr{e}}
	}
	return e
}

// wide is a set of sets of bools, sixteen in each.
func wide(sets int) api.Expr {
	part := api.Expr{Op: api.OpSet}
	for range 16 {
		part.Kids = append(part.Kids, api.Expr{Op: api.OpBool})
	}
	return api.Expr{Op: api.OpSet, Kids: slices.Repeat([]api.Expr{part}, sets)}
}

// The section Errors, as far as it speaks of policies in a row; and the limits that are theirs.
func TestErrors(t *testing.T) {
	if api.OK != 0 || api.ErrMany != 2 || api.ErrLong != 3 || api.ErrDepth != 4 || api.ErrSyntax != 5 || api.ErrUtf != 6 || api.ErrType != 7 || api.ErrUnknown != 9 || api.ErrTwice != 10 || api.ErrCycle != 12 {
		t.Error("an error's number is another one")
	}
	if api.MaxPolicies != 32 || api.MaxId != 64 {
		t.Error("a limit is another one")
	}
}

// Promise 15.1 of Check: rows that are right, and that are not.
func TestCheck(t *testing.T) {
	for i, l := range [][]api.Named{
		nil, {}, named("a"), named("a", "b"), many(31), many(32), named(strings.Repeat("i", 64)), named(strings.Repeat("é", 32)), named("\x00"), named("\x00", "\x00\x00", " ", "A", "B", "a", "a\x00", "aa", "b", "z", "ä", "日本", "\U0010ffff"), named("true", "🔒"),
		row(t, "a", `permit(principal, action, resource) when { context.a };`, "b", `forbid(principal == U::"a", action in [Action::"v"], resource is D);`),
		{{Id: "deepest", Policy: deepest}},
	} {
		if why := auth.Check(l); why != api.OK {
			t.Errorf("%d: error %d", i, why)
		}
	}
	for name, c := range map[string]struct {
		l    []api.Named
		want api.Errno
	}{
		"33": {many(33), api.ErrMany}, "1000": {many(1000), api.ErrMany}, "33 alike": {named(make([]string, 33)...), api.ErrMany},
		"no Id": {named(""), api.ErrLong}, "no Id ahead": {named("", "a"), api.ErrLong}, "no Id last": {named("a", "b", ""), api.ErrLong}, "65 bytes": {named(strings.Repeat("i", 65)), api.ErrLong}, "33 letters of two bytes": {named(strings.Repeat("é", 33)), api.ErrLong}, "a long one last": {named("a", strings.Repeat("i", 65)), api.ErrLong},
		"no UTF-8": {named("\xff"), api.ErrUtf}, "half a letter": {named("a\xc3"), api.ErrUtf}, "half of a pair": {named("a", "\xed\xa0\x80"), api.ErrUtf}, "more than one": {named("\xc0\x80"), api.ErrUtf},
		"twice": {named("a", "a"), api.ErrTwice}, "twice, apart": {named("a", "b", "a"), api.ErrTwice}, "twice last": {named("a", "b", "b"), api.ErrTwice},
		"not in order": {named("b", "a"), api.ErrSyntax}, "the last one": {named("a", "c", "b"), api.ErrSyntax}, "by letters": {named("a", "B"), api.ErrSyntax}, "by numbers": {named("9", "10"), api.ErrSyntax}, "by length": {named("z", "aa"), api.ErrSyntax}, "beyond letters": {named("ä", "z"), api.ErrSyntax}, "longer first": {named("aa", "a"), api.ErrSyntax},
		"no scope": {[]api.Named{{Id: "a", Policy: noScope}}, api.ErrSyntax}, "too many conditions": {[]api.Named{{Id: "a"}, {Id: "b", Policy: tooMany}}, api.ErrMany}, "no expression": {[]api.Named{{Id: "a"}, {Id: "b", Policy: noExpr}, {Id: "c"}}, api.ErrSyntax}, "too deep": {[]api.Named{{Id: "a", Policy: tooDeep}}, api.ErrDepth}, "too wide": {[]api.Named{{Id: "a", Policy: tooWide}}, api.ErrMany},
		"the first one's": {[]api.Named{{Id: "a", Policy: tooDeep}, {Id: "b", Policy: noScope}}, api.ErrDepth}, "the first one's, turned": {[]api.Named{{Id: "a", Policy: noScope}, {Id: "b", Policy: tooDeep}}, api.ErrSyntax}, "the first one's, too many": {[]api.Named{{Id: "a"}, {Id: "b", Policy: tooMany}, {Id: "c", Policy: tooDeep}}, api.ErrMany},
	} {
		if why := auth.Check(c.l); why != c.want {
			t.Errorf("%s: error %d, not %d", name, why, c.want)
		}
	}
}

// Promise 15.1 of Check, and P3: each of all ahead of the next one, wherever it stands.
func TestErrorsOfCheckInOrder(t *testing.T) {
	faults := []struct {
		l    []api.Named
		want api.Errno
	}{
		{many(33), api.ErrMany}, {named(""), api.ErrLong}, {named("\xff"), api.ErrUtf}, {named("m", "m"), api.ErrTwice}, {named("z", "y"), api.ErrSyntax}, {[]api.Named{{Id: "p", Policy: tooDeep}}, api.ErrDepth},
	}
	for i, first := range faults {
		if why := auth.Check(first.l); why != first.want {
			t.Errorf("fault %d alone: error %d, not %d", i, why, first.want)
		}
		for j, second := range faults[i+1:] {
			for _, l := range [][]api.Named{slices.Concat(first.l, second.l), slices.Concat(second.l, first.l), slices.Concat(second.l, first.l, named("o"))} {
				if why := auth.Check(l); why != first.want {
					t.Errorf("faults %d and %d: error %d, not %d", i, i+1+j, why, first.want)
				}
			}
		}
	}
}

// Promises 15.1 and 15.2, and P2: of a row that is not right all others answer why, ahead of all else, and nothing beside it.
func TestAllAnswerThatFirst(t *testing.T) {
	for want, l := range map[api.Errno][]api.Named{api.ErrMany: many(33), api.ErrLong: named("a", ""), api.ErrUtf: named("a", "\xff"), api.ErrTwice: named("a", "a"), api.ErrSyntax: named("b", "a"), api.ErrDepth: {{Id: "a", Policy: tooDeep}}} {
		for _, id := range []string{"a", "none", "", "\xff"} {
			if p, why := auth.Find(l, id); why != want || !reflect.DeepEqual(p, api.Policy{}) {
				t.Errorf("Find(%q): %v, error %d, not %d", id, p, why, want)
			}
			if m, why := auth.Drop(l, id); why != want || m != nil {
				t.Errorf("Drop(%q): %v, error %d, not %d", id, m, why, want)
			}
			for _, p := range []api.Policy{{}, noScope} {
				if m, why := auth.Put(l, api.Named{Id: id, Policy: p}); why != want || m != nil {
					t.Errorf("Put(%q): %v, error %d, not %d", id, m, why, want)
				}
			}
		}
		for _, q := range []api.Request{visit(t, "{}"), {}} {
			if d, why := auth.Decide(l, q, nil); why != want || !reflect.DeepEqual(d, api.Decision{}) {
				t.Errorf("Decide: %v, error %d, not %d", d, why, want)
			}
		}
	}
}

// Promise 15.1 of Find.
func TestFind(t *testing.T) {
	l := row(t, "B", `permit(principal, action, resource) when { 1 };`, "a", `forbid(principal, action, resource is D);`, "b", `permit(principal == U::"a", action, resource) unless { {b: 1, a: [2]} == context };`)
	for i, n := range l {
		if p, why := auth.Find(l, n.Id); why != api.OK || !reflect.DeepEqual(p, l[i].Policy) {
			t.Errorf("%q: %v, error %d", n.Id, p, why)
		}
	}
	for _, id := range []string{"", "A", "C", "aa", "c", "a\x00", "\xff", strings.Repeat("i", 65)} {
		if p, why := auth.Find(l, id); why != api.ErrUnknown || !reflect.DeepEqual(p, api.Policy{}) {
			t.Errorf("%q: %v, error %d", id, p, why)
		}
	}
	if _, why := auth.Find(nil, "a"); why != api.ErrUnknown {
		t.Errorf("of none: error %d", why)
	}
}

// Promise 15.1 of Put: where it stands, and what is refused.
func TestPut(t *testing.T) {
	p := must(t, `permit(principal, action, resource) when { context.a };`)
	for _, c := range []struct {
		l    []api.Named
		id   string
		want []string
	}{
		{nil, "a", []string{"a"}}, {named("b"), "a", []string{"a", "b"}}, {named("a"), "b", []string{"a", "b"}}, {named("a", "c"), "b", []string{"a", "b", "c"}}, {named("a", "b", "c"), "b", []string{"a", "b", "c"}}, {named("a", "b"), "a", []string{"a", "b"}}, {named("a", "b"), "b", []string{"a", "b"}}, {named("a", "z"), "ä", []string{"a", "z", "ä"}}, {named("b"), "B", []string{"B", "b"}},
	} {
		l, why := auth.Put(c.l, api.Named{Id: c.id, Policy: p})
		if why != api.OK || !slices.Equal(idsOf(l), c.want) {
			t.Fatalf("%q put to %q: %q, error %d", c.id, idsOf(c.l), idsOf(l), why)
		}
		for _, n := range l {
			if found, _ := auth.Find(l, n.Id); !reflect.DeepEqual(n.Policy, found) || (n.Id == c.id) != reflect.DeepEqual(n.Policy, p) {
				t.Errorf("%q put to %q: %q is %v", c.id, idsOf(c.l), n.Id, n.Policy)
			}
		}
	}
	for name, c := range map[string]struct {
		l    []api.Named
		p    api.Named
		want api.Errno
	}{
		"32": {many(31), api.Named{Id: "a"}, api.OK}, "33": {many(32), api.Named{Id: "a"}, api.ErrMany}, "one of 32 anew": {many(32), api.Named{Id: "n131", Policy: p}, api.OK}, "33, and no Id": {many(32), api.Named{}, api.ErrMany}, "33, and no policy": {many(32), api.Named{Id: "a", Policy: noScope}, api.ErrMany},
		"no Id": {named("a"), api.Named{Policy: p}, api.ErrLong}, "64 bytes": {named("a"), api.Named{Id: strings.Repeat("i", 64)}, api.OK}, "65 bytes": {named("a"), api.Named{Id: strings.Repeat("i", 65)}, api.ErrLong}, "65 bytes, no UTF-8": {nil, api.Named{Id: strings.Repeat("\xff", 65)}, api.ErrLong}, "no UTF-8": {named("a"), api.Named{Id: "b\xff"}, api.ErrUtf}, "no UTF-8, and no policy": {named("a"), api.Named{Id: "b\xff", Policy: tooDeep}, api.ErrUtf}, "no Id, and no policy": {nil, api.Named{Policy: tooDeep}, api.ErrLong},
		"no scope": {named("a"), api.Named{Id: "b", Policy: noScope}, api.ErrSyntax}, "no scope in the place of one": {named("a"), api.Named{Id: "a", Policy: noScope}, api.ErrSyntax}, "too many conditions": {nil, api.Named{Id: "b", Policy: tooMany}, api.ErrMany}, "no expression": {nil, api.Named{Id: "b", Policy: noExpr}, api.ErrSyntax}, "too deep": {named("a"), api.Named{Id: "b", Policy: tooDeep}, api.ErrDepth}, "too wide": {named("a"), api.Named{Id: "b", Policy: tooWide}, api.ErrMany},
	} {
		l, why := auth.Put(c.l, c.p)
		if why != c.want || why != api.OK && l != nil || why == api.OK && auth.Check(l) != api.OK {
			t.Errorf("%s: %q, error %d, not %d", name, idsOf(l), why, c.want)
		}
	}
}

// Promise 15.1 of Drop.
func TestDrop(t *testing.T) {
	l := row(t, "a", `permit(principal, action, resource) when { 1 };`, "b", `forbid(principal, action, resource is D);`, "c", `permit(principal, action, resource);`)
	for i, n := range l {
		if m, why := auth.Drop(l, n.Id); why != api.OK || !reflect.DeepEqual(m, slices.Delete(slices.Clone(l), i, i+1)) {
			t.Errorf("%q: %v, error %d", n.Id, m, why)
		}
	}
	for _, id := range []string{"", "A", "aa", "d", "\xff", strings.Repeat("i", 65)} {
		if m, why := auth.Drop(l, id); why != api.ErrUnknown || m != nil {
			t.Errorf("%q: %v, error %d", id, m, why)
		}
	}
	if m, why := auth.Drop(nil, "a"); why != api.ErrUnknown || m != nil {
		t.Errorf("of none: %v, error %d", m, why)
	}
	if m, why := auth.Drop(l[:1], "a"); why != api.OK || len(m) != 0 {
		t.Errorf("the last one: %v, error %d", m, why)
	}
}

// Promise 15.1: rows are as policies by their Ids, whatever is put and dropped.
func TestRowsByIds(t *testing.T) {
	r := rand.New(rand.NewSource(15))
	pool := []api.Policy{must(t, `permit(principal, action, resource);`), must(t, `forbid(principal, action, resource) when { context.a };`), must(t, `permit(principal in G::"g", action in [Action::"v", Action::"w"], resource is D) unless { 1 } when { {a: 1} == context };`), noScope, tooDeep}
	seen := map[api.Errno]int{}
	for range 40 {
		var l []api.Named
		kept := map[string]int{}
		for range 300 {
			id, p := strconv.Itoa(r.Intn(45)), r.Intn(len(pool))
			var m []api.Named
			var why, want api.Errno
			_, there := kept[id]
			if r.Intn(6) == 0 {
				m, why = auth.Drop(l, id)
				if !there {
					want = api.ErrUnknown
				}
				p = -1
			} else {
				m, why = auth.Put(l, api.Named{Id: id, Policy: pool[p]})
				switch {
				case !there && len(kept) == 32:
					want = api.ErrMany
				case p == 3:
					want = api.ErrSyntax
				case p == 4:
					want = api.ErrDepth
				}
			}
			seen[why]++
			if why != want || why != api.OK && m != nil {
				t.Fatalf("%q with %d: %v, error %d, not %d", id, p, m, why, want)
			}
			if why != api.OK {
				continue
			}
			if kept[id] = p; p < 0 {
				delete(kept, id)
			}
			l = m
			var ids []string
			for id := range kept {
				ids = append(ids, id)
			}
			if slices.Sort(ids); !slices.Equal(idsOf(l), ids) {
				t.Fatalf("%q, not %q", idsOf(l), ids)
			}
			for i, n := range l {
				if !reflect.DeepEqual(n.Policy, pool[kept[ids[i]]]) {
					t.Fatalf("%q: %v", n.Id, n.Policy)
				}
			}
		}
	}
	for _, why := range []api.Errno{api.OK, api.ErrMany, api.ErrSyntax, api.ErrDepth, api.ErrUnknown} {
		if seen[why] < 50 {
			t.Errorf("error %d comes %d times", why, seen[why])
		}
	}
}

// spoil writes over all that lists of a value have, wherever they are.
func spoil(v reflect.Value) {
	switch v.Kind() {
	case reflect.Struct:
		for i := range v.NumField() {
			spoil(v.Field(i))
		}
	case reflect.Slice:
		for i := range v.Len() {
			spoil(v.Index(i))
			v.Index(i).SetZero()
		}
	}
}

// shared tells whether two lists within a value share memory, the room behind them with it.
func shared(v reflect.Value) bool {
	seen := map[uintptr]int{}
	var walk func(v reflect.Value)
	walk = func(v reflect.Value) {
		switch v.Kind() {
		case reflect.Struct:
			for i := range v.NumField() {
				walk(v.Field(i))
			}
		case reflect.Slice:
			for i := range v.Cap() {
				seen[v.Pointer()+uintptr(i)*v.Type().Elem().Size()]++
			}
			for i := range v.Len() {
				walk(v.Index(i))
			}
		}
	}
	walk(v)
	for _, n := range seen {
		if n > 1 {
			return true
		}
	}
	return false
}

// samePolicies are three policies that share all memory.
func samePolicies(t *testing.T) []api.Named {
	p := must(t, `permit(principal == U::"a", action in [Action::"v", Action::"w"], resource == U::"a") when { {b: [1], a: principal} == context } unless { [[1, 2]] == context };`)
	l := make([]api.Named, 3, 8)
	copy(l, []api.Named{{Id: "b", Policy: p}, {Id: "d", Policy: p}, {Id: "f", Policy: p}})
	return l
}

// Promise 15.3: answers are new memory, of a row whose policies share theirs and behind which there is room, too; what is handed in is neither changed nor kept.
func TestNewMemory(t *testing.T) {
	l := samePolicies(t)
	behind := l[:cap(l)]
	p := api.Named{Id: "c", Policy: l[0].Policy}
	put := func(id string) func() (any, api.Errno) {
		return func() (any, api.Errno) { m, why := auth.Put(l, api.Named{Id: id, Policy: p.Policy}); return m, why }
	}
	drop := func(id string) func() (any, api.Errno) {
		return func() (any, api.Errno) { m, why := auth.Drop(l, id); return m, why }
	}
	for name, call := range map[string]func() (any, api.Errno){
		"Find":      func() (any, api.Errno) { m, why := auth.Find(l, "d"); return m, why },
		"Put ahead": put("a"), "Put between": put("c"), "Put behind": put("g"), "Put first": put("b"), "Put last": put("f"),
		"Drop first": drop("b"), "Drop between": drop("d"), "Drop last": drop("f"),
	} {
		one, why := call()
		two, no := call()
		if why != api.OK || no != api.OK || !reflect.DeepEqual(one, two) {
			t.Fatalf("%s: errors %d, %d, %v, %v", name, why, no, one, two)
		}
		if shared(reflect.ValueOf(one)) {
			t.Errorf("%s: two lists of the answer share memory", name)
		}
		spoil(reflect.ValueOf(one))
		if three, _ := call(); !reflect.DeepEqual(two, three) {
			t.Errorf("%s: an answer shares memory", name)
		}
		if !reflect.DeepEqual(l, samePolicies(t)) || !reflect.DeepEqual(p.Policy, samePolicies(t)[0].Policy) || !reflect.DeepEqual(behind[3:], make([]api.Named, 5)) {
			t.Fatalf("%s: what was handed in is changed", name)
		}
	}
	m, _ := auth.Put(l, p)
	spoil(reflect.ValueOf(l))
	if want := samePolicies(t); !reflect.DeepEqual(m, []api.Named{want[0], {Id: "c", Policy: want[0].Policy}, want[1], want[2]}) {
		t.Error("what was handed in is kept")
	}
}

// P4.
func TestNoGoroutineIsLeft(t *testing.T) {
	before := runtime.NumGoroutine()
	l := samePolicies(t)
	for range 20 {
		auth.Put(l, api.Named{Id: "a"})
		auth.Drop(l, "b")
		auth.Find(l, "b")
		auth.Decide(l, visit(t, "{}"), nil)
	}
	if after := runtime.NumGoroutine(); after > before {
		t.Errorf("%d goroutines, before %d", after, before)
	}
}
