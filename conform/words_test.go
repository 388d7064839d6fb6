package conform_test

import (
	"math/rand"
	"slices"
	"testing"

	"lictor/api"
	"lictor/conform"
	"lictor/entity"
	"lictor/eval"
	"lictor/expr"
	"lictor/policy"
	"lictor/schema"
	"lictor/types"
	"lictor/value"
)

// This file tells chapter 14's words another way, makes schemas and all that fits them by chance, and holds the package against that.

// oneOf is one of a list by chance.
func oneOf[T any](r *rand.Rand, l []T) T { return l[r.Intn(len(l))] }

// node is an op of Kids alone.
func node(op api.Op, kids ...api.Expr) api.Expr { return api.Expr{Op: op, Kids: kids} }

// told is a schema and entities in a row, both right, of which chapter 14's words are asked.
type told struct {
	x api.Schema
	l []api.Entity
}

// missing tells whether one of some Uids is not there.
func (w told) missing(l []api.Uid) bool {
	there := map[api.Uid]int{}
	for _, e := range w.l {
		if e.Uid.Type != "Action" {
			there[e.Uid]++
		}
	}
	for _, a := range w.x.Actions {
		there[api.Uid{Type: "Action", Id: a.Id}]++
	}
	for _, u := range l {
		if there[u] == 0 {
			return true
		}
	}
	return false
}

// inside are the entities within values.
func inside(todo ...api.Value) []api.Uid {
	var l []api.Uid
	for len(todo) > 0 {
		v := todo[0]
		if todo = slices.Concat(v.List, todo[1:]); v.Kind == api.KindEntity {
			l = append(l, api.Uid{Type: v.T, Id: v.S})
		}
	}
	return l
}

func (w told) entity(e api.Entity) api.Errno {
	if why := entity.Check(e); why != api.OK {
		return why
	}
	for _, t := range w.x.Types {
		if t.Name != e.Uid.Type {
			continue
		}
		strange := slices.DeleteFunc(slices.Clone(e.Parents), func(u api.Uid) bool { return slices.Contains(t.Parents, u.Type) })
		if len(strange) > 0 || !types.Fits(e.Attrs, api.Type{Kind: api.TypeRecord, Attrs: t.Attrs}) {
			return api.ErrType
		}
		others := slices.DeleteFunc(append(inside(e.Attrs), e.Parents...), func(u api.Uid) bool { return u == e.Uid })
		if w.missing(others) {
			return api.ErrMissing
		}
		return api.OK
	}
	return api.ErrUnknown
}

func (w told) request(q api.Request) api.Errno {
	if why := eval.Check(q); why != api.OK {
		return why
	}
	for _, a := range w.x.Actions {
		if q.Action != (api.Uid{Type: "Action", Id: a.Id}) {
			continue
		}
		switch {
		case !slices.Contains(a.Principals, q.Principal.Type), !slices.Contains(a.Resources, q.Resource.Type), !types.Fits(q.Context, api.Type{Kind: api.TypeRecord, Attrs: a.Context}):
			return api.ErrType
		case w.missing(append(inside(q.Context), q.Principal, q.Resource)):
			return api.ErrMissing
		}
		return api.OK
	}
	return api.ErrUnknown
}

func (w told) policy(p api.Policy) api.Errno {
	body, why := policy.Body(p)
	if why != api.OK {
		return why
	}
	type kind struct{ action, principal, resource string }
	var kinds []kind
	contexts := map[string][]api.Attr{}
	for _, a := range w.x.Actions {
		contexts[a.Id] = a.Context
		for _, principal := range a.Principals {
			for _, resource := range a.Resources {
				kinds = append(kinds, kind{a.Id, principal, resource})
			}
		}
	}
	unless := func(s api.Scope, name string) bool {
		return s.Kind == api.ScopeEqual && s.Uids[0].Type != name || s.Kind == api.ScopeIs && s.Type != name
	}
	kinds = slices.DeleteFunc(kinds, func(k kind) bool {
		named := slices.Contains(p.Action.Uids, api.Uid{Type: "Action", Id: k.action})
		return p.Action.Kind != api.ScopeAny && !named || unless(p.Principal, k.principal) || unless(p.Resource, k.resource)
	})
	for _, k := range kinds {
		if _, why := types.Infer(body, w.x, api.Env{Principal: k.principal, Resource: k.resource, Context: contexts[k.action]}); why != api.OK {
			return why
		}
	}
	if w.missing(types.Uids(body)) {
		return api.ErrMissing
	}
	return api.OK
}

// maker makes what fits a schema by chance; now and then something that does not, if it errs.
type maker struct {
	*rand.Rand
	x    api.Schema
	v    api.Env
	errs bool
}

func (m maker) slip() bool { return m.errs && m.Intn(25) == 0 }

// names are the names of types by chance, in order.
func (m maker) names() []string {
	return slices.DeleteFunc([]string{"Doc", "Group", "User"}, func(string) bool { return m.Intn(3) == 0 })
}

// someType is a type of values by chance, nested at most so deep.
func (m maker) someType(deep int) api.Type {
	if deep > 1 && m.Intn(3) == 0 {
		return api.Type{Kind: api.TypeSet, Of: []api.Type{m.someType(deep - 1)}}
	}
	if deep > 1 && m.Intn(4) == 0 {
		return api.Type{Kind: api.TypeRecord, Attrs: m.someAttrs(deep - 1)}
	}
	kind := oneOf(m.Rand, []api.TypeKind{api.TypeBool, api.TypeLong, api.TypeString, api.TypeEntity, api.TypeEntity})
	if kind == api.TypeEntity {
		return api.Type{Kind: kind, Name: oneOf(m.Rand, []string{"User", "Group", "Doc", "Action"})}
	}
	return api.Type{Kind: kind}
}

func (m maker) someAttrs(deep int) []api.Attr {
	var l []api.Attr
	for _, name := range []string{"a", "b", "c", "x y"} {
		if m.Intn(2) == 0 {
			l = append(l, api.Attr{Name: name, Type: m.someType(deep)})
		}
	}
	return l
}

// schemaOf is a right schema by chance.
func (m maker) schemaOf() api.Schema {
	var x api.Schema
	for _, name := range []string{"User", "Doc", "Group"} {
		x.Types = append(x.Types, api.EntityType{Name: name, Parents: m.names(), Attrs: m.someAttrs(3)})
	}
	for _, id := range []string{"view", "edit"} {
		x.Actions = append(x.Actions, api.Action{Id: id, Principals: m.names(), Resources: m.names(), Context: m.someAttrs(3)})
	}
	return x
}

// uid is somebody of a type, who may be there.
func (m maker) uid(kind string) api.Uid {
	if m.slip() {
		kind = oneOf(m.Rand, []string{"User", "Nope", "Action"})
	}
	if kind == "Action" {
		return api.Uid{Type: kind, Id: oneOf(m.Rand, []string{"view", "edit"})}
	}
	return api.Uid{Type: kind, Id: oneOf(m.Rand, []string{"1", "2", "3"})}
}

// valueOf is a value of a type.
func (m maker) valueOf(t api.Type) api.Value {
	if m.slip() {
		t = m.someType(2)
	}
	switch t.Kind {
	case api.TypeBool:
		return api.Value{Kind: api.KindBool, B: m.Intn(2) == 0}
	case api.TypeLong:
		return api.Value{Kind: api.KindLong, N: oneOf(m.Rand, []int64{0, 1, 2, -1, 1<<63 - 1, -1 << 63})}
	case api.TypeString:
		return api.Value{Kind: api.KindString, S: oneOf(m.Rand, []string{"", "a", "ab"})}
	case api.TypeEntity:
		u := m.uid(t.Name)
		return api.Value{Kind: api.KindEntity, T: u.Type, S: u.Id}
	case api.TypeSet:
		var l []api.Value
		for range m.Intn(4) {
			l = append(l, m.valueOf(t.Of[0]))
		}
		v, _ := value.Set(l)
		return v
	}
	v := api.Value{Kind: api.KindRecord}
	for _, a := range t.Attrs {
		if !m.slip() {
			v.Names, v.List = append(v.Names, a.Name), append(v.List, m.valueOf(a.Type))
		}
	}
	return v
}

// entityOf is an entity; its parents stand behind it.
func (m maker) entityOf(u api.Uid) api.Entity {
	t, _ := schema.Type(m.x, u.Type)
	e := api.Entity{Uid: u, Attrs: m.valueOf(api.Type{Kind: api.TypeRecord, Attrs: t.Attrs})}
	for _, kind := range []string{"Doc", "Group", "User"} {
		for _, id := range []string{"1", "2", "3"} {
			behind := kind > u.Type || kind == u.Type && id > u.Id
			if may := slices.Contains(t.Parents, kind) || m.slip(); may && behind && m.Intn(3) == 0 {
				e.Parents = append(e.Parents, api.Uid{Type: kind, Id: id})
			}
		}
	}
	return e
}

// rowOf is a right row; of all who may be there some are not.
func (m maker) rowOf() []api.Entity {
	var l []api.Entity
	for _, kind := range []string{"Action", "Doc", "Group", "Nope", "User"} {
		for _, id := range []string{"1", "2", "3"} {
			if strange := kind == "Action" || kind == "Nope"; strange && m.slip() || !strange && m.Intn(8) > 0 {
				l = append(l, m.entityOf(api.Uid{Type: kind, Id: id}))
			}
		}
	}
	return l
}

// fitting are the entities of a row that fit, when those who do not are gone.
func fitting(x api.Schema, l []api.Entity) []api.Entity {
	for {
		why, i := conform.All(x, l)
		if why == api.OK || i < 0 {
			return l
		}
		l = slices.Delete(slices.Clone(l), i, i+1)
	}
}

// requestOf is a request.
func (m maker) requestOf() api.Request {
	a := oneOf(m.Rand, m.x.Actions)
	kind := func(l []string) string {
		if len(l) == 0 || m.slip() {
			return "User"
		}
		return oneOf(m.Rand, l)
	}
	q := api.Request{Principal: m.uid(kind(a.Principals)), Action: api.Uid{Type: "Action", Id: a.Id}, Resource: m.uid(kind(a.Resources)), Context: m.valueOf(api.Type{Kind: api.TypeRecord, Attrs: a.Context})}
	if m.slip() {
		q.Action = api.Uid{Type: oneOf(m.Rand, []string{"Action", "User"}), Id: oneOf(m.Rand, []string{"view", "1"})}
	}
	return q
}

// path is an expression of a type.
type path struct {
	e api.Expr
	t api.Type
}

// paths are the request's parts, and what they have, and what that has.
func (m maker) paths() []path {
	variable := func(s string) api.Expr { return api.Expr{Op: api.OpVar, S: s} }
	of := func(name string) api.Type { return api.Type{Kind: api.TypeEntity, Name: name} }
	l := []path{{variable("principal"), of(m.v.Principal)}, {variable("resource"), of(m.v.Resource)}, {variable("action"), of("Action")}, {variable("context"), api.Type{Kind: api.TypeRecord, Attrs: m.v.Context}}}
	for i := 0; i < len(l) && len(l) < 40; i++ {
		attrs := l[i].t.Attrs
		if l[i].t.Kind == api.TypeEntity {
			t, _ := schema.Type(m.x, l[i].t.Name)
			attrs = t.Attrs
		}
		for _, a := range attrs {
			l = append(l, path{api.Expr{Op: api.OpAttr, S: a.Name, Kids: []api.Expr{l[i].e}}, a.Type})
		}
	}
	return l
}

// exprOf is an expression of a type, nested at most so deep but for what it ends in.
func (m maker) exprOf(t api.Type, deep int) api.Expr {
	if m.slip() {
		t = m.someType(2)
	}
	if text, why := schema.ShowType(t); why == api.OK && (deep <= 1 || m.Intn(3) == 0) {
		l := slices.DeleteFunc(m.paths(), func(p path) bool { other, _ := schema.ShowType(p.t); return other != text })
		if len(l) > 0 {
			return oneOf(m.Rand, l).e
		}
	}
	kid := func(kind api.TypeKind) api.Expr { return m.exprOf(api.Type{Kind: kind}, deep-1) }
	if deep > 1 && m.Intn(5) == 0 {
		return node(api.OpIf, kid(api.TypeBool), m.exprOf(t, deep-1), m.exprOf(t, deep-1))
	}
	switch t.Kind {
	case api.TypeBool:
		if deep > 1 {
			return m.test(deep)
		}
		return api.Expr{Op: api.OpBool, N: int64(m.Intn(2))}
	case api.TypeLong:
		if deep > 1 && m.Intn(4) == 0 {
			return node(api.OpNeg, kid(api.TypeLong))
		}
		if deep > 1 {
			return node(oneOf(m.Rand, []api.Op{api.OpAdd, api.OpSub, api.OpMul}), kid(api.TypeLong), kid(api.TypeLong))
		}
		return api.Expr{Op: api.OpLong, N: oneOf(m.Rand, []int64{0, 1, 2, 3, 1<<63 - 1})}
	case api.TypeString:
		return api.Expr{Op: api.OpString, S: oneOf(m.Rand, []string{"", "a", "b"})}
	case api.TypeEntity:
		u := m.uid(t.Name)
		return api.Expr{Op: api.OpEntity, T: u.Type, S: u.Id}
	case api.TypeSet:
		e := node(api.OpSet)
		for range m.Intn(3) {
			e.Kids = append(e.Kids, m.exprOf(t.Of[0], deep-1))
		}
		return e
	}
	e := node(api.OpRecord)
	for _, a := range slices.Backward(t.Attrs) {
		e.Names, e.Kids = append(e.Names, a.Name), append(e.Kids, m.exprOf(a.Type, deep-1))
	}
	return e
}

// test is an expression that is a bool.
func (m maker) test(deep int) api.Expr {
	kid := func(t api.Type) api.Expr { return m.exprOf(t, deep-1) }
	plain := func(kind api.TypeKind) api.Expr { return kid(api.Type{Kind: kind}) }
	being := func() api.Expr {
		return kid(api.Type{Kind: api.TypeEntity, Name: oneOf(m.Rand, []string{"User", "Group", "Doc", "Action"})})
	}
	set := func(t api.Type) api.Expr { return kid(api.Type{Kind: api.TypeSet, Of: []api.Type{t}}) }
	some := m.someType(3)
	switch m.Intn(10) {
	case 0:
		return node(api.OpNot, plain(api.TypeBool))
	case 1:
		return node(oneOf(m.Rand, []api.Op{api.OpAnd, api.OpOr}), plain(api.TypeBool), plain(api.TypeBool))
	case 2:
		return node(oneOf(m.Rand, []api.Op{api.OpEqual, api.OpUnlike}), kid(some), kid(oneOf(m.Rand, []api.Type{some, m.someType(2)})))
	case 3:
		return node(oneOf(m.Rand, []api.Op{api.OpLess, api.OpMost, api.OpMore, api.OpLeast}), plain(api.TypeLong), plain(api.TypeLong))
	case 4:
		return node(api.OpIn, being(), being())
	case 5:
		return node(api.OpIn, node(api.OpIf, plain(api.TypeBool), being(), being()), node(api.OpSet, being(), being()))
	case 6:
		return node(api.OpContains, set(some), kid(some))
	case 7:
		return node(oneOf(m.Rand, []api.Op{api.OpAll, api.OpAny}), set(some), set(oneOf(m.Rand, []api.Type{some, m.someType(1)})))
	case 8:
		return api.Expr{Op: api.OpHas, S: oneOf(m.Rand, []string{"a", "b", "x y"}), Kids: []api.Expr{being()}}
	}
	return oneOf(m.Rand, []api.Expr{{Op: api.OpIs, T: "User", Kids: []api.Expr{being()}}, {Op: api.OpLike, S: `a*`, Kids: []api.Expr{plain(api.TypeString)}}, {Op: api.OpHas, S: "a", Kids: []api.Expr{{Op: api.OpVar, S: "context"}}}})
}

// scopeOf is a principal's or a resource's scope that is to hold of a type most often.
func (m maker) scopeOf(name string) api.Scope {
	switch m.Intn(5) {
	case 0:
		return api.Scope{}
	case 1:
		return api.Scope{Kind: api.ScopeEqual, Uids: []api.Uid{m.uid(name)}}
	case 2:
		return api.Scope{Kind: api.ScopeIn, Uids: []api.Uid{m.uid(oneOf(m.Rand, []string{"User", "Group", "Doc"}))}}
	}
	return api.Scope{Kind: api.ScopeIs, Type: name}
}

// policyOf is a policy that is to be asked of an action, with conditions of the maker's Env.
func (m maker) policyOf(action string, deep int) api.Policy {
	p := api.Policy{Permit: m.Intn(2) == 0, Principal: m.scopeOf(m.v.Principal), Resource: m.scopeOf(m.v.Resource)}
	u := api.Uid{Type: "Action", Id: action}
	switch m.Intn(6) {
	case 0:
		p.Action = api.Scope{Kind: api.ScopeIn, Uids: []api.Uid{u, m.uid("Action")}}
	case 1:
	default:
		p.Action = api.Scope{Kind: api.ScopeEqual, Uids: []api.Uid{u}}
	}
	for range m.Intn(3) {
		p.Conds = append(p.Conds, api.Cond{Unless: m.Intn(2) == 0, Expr: m.exprOf(api.Type{Kind: api.TypeBool}, deep)})
	}
	return p
}

// envOf is of which types the parts of an action's requests are, by chance; whether there are any.
func (m maker) envOf(a api.Action) (api.Env, bool) {
	if len(a.Principals) == 0 || len(a.Resources) == 0 {
		return api.Env{}, false
	}
	return api.Env{Principal: oneOf(m.Rand, a.Principals), Resource: oneOf(m.Rand, a.Resources), Context: a.Context}, true
}

// counts are how often each error was answered.
type counts map[api.Errno]int

// enough complains, if an error was answered less than so often.
func (c counts) enough(t *testing.T, what string, least int, errors ...api.Errno) {
	t.Helper()
	for _, why := range errors {
		if c[why] < least {
			t.Errorf("%s: error %d comes %d times", what, why, c[why])
		}
	}
}

// Promises 14.1 to 14.3: schemas, rows, entities, requests and policies by chance, against the words.
func TestByTheWords(t *testing.T) {
	m := maker{Rand: rand.New(rand.NewSource(14)), errs: true}
	entities, requests, policies, rows := counts{}, counts{}, counts{}, counts{}
	for range 2500 {
		m.x = m.schemaOf()
		l := m.rowOf()
		if schema.Check(m.x) != api.OK || entity.CheckRow(l) != api.OK {
			continue
		}
		w := told{m.x, l}
		first, place := api.OK, len(l)
		for i, e := range slices.Backward(l) {
			if why := w.entity(e); why != api.OK {
				first, place = why, i
			}
		}
		if why, at := conform.All(m.x, l); why != first || at != place {
			t.Fatalf("All: error %d at %d, not %d at %d", why, at, first, place)
		}
		rows[first]++
		if m.Intn(2) == 0 {
			w.l = fitting(m.x, l)
		}
		for range 4 {
			e, q := m.entityOf(m.uid(oneOf(m.Rand, []string{"User", "Group", "Doc"}))), m.requestOf()
			if why := conform.Entity(m.x, w.l, e); why != w.entity(e) {
				t.Fatalf("%v: error %d, not %d", e, why, w.entity(e))
			}
			entities[w.entity(e)]++
			if why := conform.Request(m.x, w.l, q); why != w.request(q) {
				t.Fatalf("%v: error %d, not %d", q, why, w.request(q))
			}
			requests[w.request(q)]++
			a := oneOf(m.Rand, m.x.Actions)
			m.v, _ = m.envOf(a)
			p := m.policyOf(a.Id, 2)
			if why := conform.Policy(m.x, w.l, p); why != w.policy(p) {
				t.Fatalf("%v: error %d, not %d", p, why, w.policy(p))
			}
			policies[w.policy(p)]++
		}
	}
	rows.enough(t, "All", 25, api.OK, api.ErrUnknown, api.ErrType, api.ErrMissing)
	entities.enough(t, "Entity", 50, api.OK, api.ErrUnknown, api.ErrType, api.ErrMissing)
	requests.enough(t, "Request", 50, api.OK, api.ErrUnknown, api.ErrType, api.ErrMissing)
	policies.enough(t, "Policy", 25, api.OK, api.ErrUnknown, api.ErrType, api.ErrMissing)
}

// Promise 14.4, and P9: of a schema, entities, a policy and a request that fit, the policy's body comes to true, to false, or to ErrOver.
func TestNoErrorButOne(t *testing.T) {
	m := maker{Rand: rand.New(rand.NewSource(144))}
	seen, holds := counts{}, map[bool]int{}
	for range 4000 {
		m.x = m.schemaOf()
		l := fitting(m.x, m.rowOf())
		a := oneOf(m.Rand, m.x.Actions)
		v, may := m.envOf(a)
		if !may {
			continue
		}
		m.v = v
		p := m.policyOf(a.Id, 4)
		if conform.Policy(m.x, l, p) != api.OK {
			continue
		}
		body, _ := policy.Body(p)
		for range 6 {
			q := m.requestOf()
			if conform.Request(m.x, l, q) != api.OK {
				continue
			}
			yes, why := eval.Holds(body, q, l)
			if why != api.OK && why != api.ErrOver {
				s, _ := policy.Print(p)
				t.Fatalf("%s, asked %v: error %d", s, q, why)
			}
			seen[why]++
			holds[yes]++
		}
	}
	if seen.enough(t, "a policy", 25, api.OK, api.ErrOver); holds[true] < 500 || holds[false] < 500 {
		t.Errorf("policies hold %d times, and %d times not", holds[true], holds[false])
	}
}

// Promises 14.5 and 13.6: an expression with a type comes to a value that fits it, or to ErrOver, if all its entities are there.
func TestWhatItComesToFits(t *testing.T) {
	m := maker{Rand: rand.New(rand.NewSource(145))}
	seen, kinds := counts{}, map[api.TypeKind]int{}
	for range 12000 {
		m.x = m.schemaOf()
		l := fitting(m.x, m.rowOf())
		q := m.requestOf()
		if conform.Request(m.x, l, q) != api.OK {
			continue
		}
		a, _ := schema.Action(m.x, q.Action.Id)
		m.v = api.Env{Principal: q.Principal.Type, Resource: q.Resource.Type, Context: a.Context}
		for range 4 {
			e := m.exprOf(m.someType(3), 4)
			if m.Intn(4) == 0 {
				e = node(api.OpSet, e, m.exprOf(m.someType(1), 2))
			}
			of, why := types.Infer(e, m.x, m.v)
			if why != api.OK || (told{m.x, l}).missing(types.Uids(e)) {
				continue
			}
			v, why := eval.Eval(e, q, l)
			if why != api.OK && why != api.ErrOver || why == api.OK && !types.Fits(v, of) {
				s, _ := expr.Print(e)
				t.Fatalf("%s comes to %v, error %d, of type %v", s, v, why, of)
			}
			seen[why]++
			kinds[of.Kind]++
		}
	}
	seen.enough(t, "an expression", 100, api.OK, api.ErrOver)
	for kind := api.TypeBool; kind < api.TypeCount; kind++ {
		if kinds[kind] < 100 {
			t.Errorf("%d expressions are of kind %d", kinds[kind], kind)
		}
	}
}

// P1: whatever is handed in.
func TestWhateverIsHandedIn(t *testing.T) {
	m := maker{Rand: rand.New(rand.NewSource(1)), errs: true}
	deep := api.Value{Kind: api.KindEntity, T: "User", S: "1"}
	for range 1 << 16 {
		deep = api.Value{Kind: api.KindSet, List: []api.Value{deep}}
	}
	values := []api.Value{{}, deep, {Kind: api.KindRecord, Names: []string{"a"}}, {Kind: api.KindRecord, List: []api.Value{{}}}, {Kind: api.KindCount, List: []api.Value{{}}}}
	for range 800 {
		m.x = m.schemaOf()
		l, q, e, p := m.rowOf(), m.requestOf(), m.entityOf(m.uid("User")), m.policyOf("view", 2)
		switch v := oneOf(m.Rand, values); m.Intn(4) {
		case 0:
			e.Attrs, q.Context = v, v
		case 1:
			p.Principal = api.Scope{Kind: api.ScopeKind(m.Intn(int(api.ScopeCount) + 2)), Type: oneOf(m.Rand, []string{"", "in"})}
			p.Action, p.Resource = p.Principal, p.Principal
		case 2:
			m.x.Types[0].Attrs, m.x.Actions[0].Context = []api.Attr{{Type: api.Type{Kind: api.TypeSet}}}, []api.Attr{{}}
		case 3:
			l = append(l, e, api.Entity{Attrs: v})
		}
		answers := []api.Errno{conform.Entity(m.x, l, e), conform.Request(m.x, l, q), conform.Policy(m.x, l, p)}
		why, place := conform.All(m.x, l)
		wrong := schema.Check(m.x)
		if wrong == api.OK {
			wrong = entity.CheckRow(l)
		}
		if wrong != api.OK && (why != wrong || place != -1 || !slices.Equal(answers, []api.Errno{wrong, wrong, wrong})) {
			t.Fatalf("errors %v, %d at %d, not %d", answers, why, place, wrong)
		}
		if wrong == api.OK && (place < 0 || place > len(l) || (why == api.OK) != (place == len(l))) {
			t.Fatalf("All: error %d at %d", why, place)
		}
	}
}
