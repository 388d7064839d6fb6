package policy_test

import (
	"math/rand"
	"reflect"
	"runtime"
	"slices"
	"strconv"
	"strings"
	"testing"

	"lictor/api"
	"lictor/expr"
	"lictor/policy"
	"lictor/value"
)

// node is an op of Kids alone.
func node(op api.Op, kids ...api.Expr) api.Expr { return api.Expr{Op: op, Kids: kids} }

func boolean(n int64) api.Expr { return api.Expr{Op: api.OpBool, N: n} }

func long(n int64) api.Expr { return api.Expr{Op: api.OpLong, N: n} }

func variable(s string) api.Expr { return api.Expr{Op: api.OpVar, S: s} }

func being(kind, id string) api.Expr { return api.Expr{Op: api.OpEntity, T: kind, S: id} }

func attr(e api.Expr, s string) api.Expr {
	return api.Expr{Op: api.OpAttr, S: s, Kids: []api.Expr{e}}
}

// uid is that of a type and an id with :: between; the id has none.
func uid(s string) api.Uid {
	i := strings.LastIndex(s, "::")
	return api.Uid{Type: s[:i], Id: s[i+2:]}
}

// uids are any many.
func uids(l ...string) []api.Uid {
	var out []api.Uid
	for _, s := range l {
		out = append(out, uid(s))
	}
	return out
}

// manyUids are n, all of them others.
func manyUids(n int) []api.Uid {
	var out []api.Uid
	for i := range n {
		out = append(out, api.Uid{Type: "Action", Id: strconv.Itoa(i)})
	}
	return out
}

func equal(s string) api.Scope { return api.Scope{Kind: api.ScopeEqual, Uids: uids(s)} }

func in(l ...string) api.Scope { return api.Scope{Kind: api.ScopeIn, Uids: uids(l...)} }

func is(kind string) api.Scope { return api.Scope{Kind: api.ScopeIs, Type: kind} }

func when(e api.Expr) api.Cond { return api.Cond{Expr: e} }

func unless(e api.Expr) api.Cond { return api.Cond{Unless: true, Expr: e} }

// conds are n conditions that ask e.
func conds(n int, e api.Expr) []api.Cond {
	l := make([]api.Cond, n)
	for i := range l {
		l[i] = when(e)
	}
	return l
}

// permit is a policy of three scopes and any many conditions.
func permit(p, a, r api.Scope, l ...api.Cond) api.Policy {
	return api.Policy{Permit: true, Principal: p, Action: a, Resource: r, Conds: l}
}

// open is a policy of scopes that ask nothing.
func open(l ...api.Cond) api.Policy { return permit(api.Scope{}, api.Scope{}, api.Scope{}, l...) }

// again is the same expression in memory of its own.
func again(e api.Expr) api.Expr {
	e.Names, e.Kids = slices.Clone(e.Names), slices.Clone(e.Kids)
	for i := range e.Kids {
		e.Kids[i] = again(e.Kids[i])
	}
	return e
}

// policyAgain is the same policy in memory of its own.
func policyAgain(p api.Policy) api.Policy {
	for _, s := range []*api.Scope{&p.Principal, &p.Action, &p.Resource} {
		s.Uids = slices.Clone(s.Uids)
	}
	p.Conds = slices.Clone(p.Conds)
	for i := range p.Conds {
		p.Conds[i].Expr = again(p.Conds[i].Expr)
	}
	return p
}

// with is p, changed.
func with(p api.Policy, change func(p *api.Policy)) api.Policy {
	p = policyAgain(p)
	change(&p)
	return p
}

// alike tells whether two expressions are the same; nil and empty lists are.
func alike(a, b api.Expr) bool {
	return a.Op == b.Op && a.N == b.N && a.S == b.S && a.T == b.T && slices.Equal(a.Names, b.Names) && slices.EqualFunc(a.Kids, b.Kids, alike)
}

func scopesAlike(a, b api.Scope) bool {
	return a.Kind == b.Kind && a.Type == b.Type && slices.Equal(a.Uids, b.Uids)
}

func condsAlike(a, b api.Cond) bool { return a.Unless == b.Unless && alike(a.Expr, b.Expr) }

// policiesAlike tells whether two policies are the same.
func policiesAlike(a, b api.Policy) bool {
	return a.Permit == b.Permit && scopesAlike(a.Principal, b.Principal) && scopesAlike(a.Action, b.Action) && scopesAlike(a.Resource, b.Resource) && slices.EqualFunc(a.Conds, b.Conds, condsAlike)
}

// zero tells whether an answer is the zero one.
func zero(v any) bool { return reflect.ValueOf(v).IsZero() }

// nested is a long within so many nots.
func nested(deep int) api.Expr {
	e := long(1)
	for range deep - 1 {
		e = node(api.OpNot, e)
	}
	return e
}

// wide is a set of sets of longs that has so many nodes in all, from 20 to 200.
func wide(nodes int) api.Expr {
	e := node(api.OpSet)
	rest := nodes - 1 - 12
	for i := range 12 {
		take := rest / (12 - i)
		rest -= take
		part := node(api.OpSet)
		for range take {
			part.Kids = append(part.Kids, long(7))
		}
		e.Kids = append(e.Kids, part)
	}
	return e
}

// oneOf is one of a list by chance.
func oneOf[T any](r *rand.Rand, l []T) T { return l[r.Intn(len(l))] }

// anyExpr is a right expression by chance, nested at most so deep.
func anyExpr(r *rand.Rand, deep int) api.Expr {
	if deep <= 1 || r.Intn(4) == 0 {
		return oneOf(r, []api.Expr{boolean(0), boolean(1), long(0), long(42), {Op: api.OpString, S: `a "\*`}, being("User", "a"), being("A::B", "\n"), variable("principal"), variable("action"), variable("resource"), variable("context"), node(api.OpSet), node(api.OpRecord)})
	}
	kid := func() api.Expr { return anyExpr(r, deep-1) }
	switch r.Intn(9) {
	case 0:
		return node(api.OpSet, kid(), kid())
	case 1:
		return api.Expr{Op: api.OpRecord, Names: []string{"b", "a", "x y"}, Kids: []api.Expr{kid(), kid(), kid()}}
	case 2:
		return api.Expr{Op: oneOf(r, []api.Op{api.OpAttr, api.OpHas}), S: oneOf(r, []string{"a", "in", "é"}), Kids: []api.Expr{kid()}}
	case 3:
		return api.Expr{Op: api.OpIs, T: oneOf(r, []string{"A", "A::B"}), Kids: []api.Expr{kid()}}
	case 4:
		return api.Expr{Op: api.OpLike, S: `a*\*`, Kids: []api.Expr{kid()}}
	case 5:
		return node(oneOf(r, []api.Op{api.OpNot, api.OpNeg}), kid())
	case 6:
		return node(api.OpIf, kid(), kid(), kid())
	}
	return node(api.OpAnd+api.Op(r.Intn(int(api.OpCount-api.OpAnd))), kid(), kid())
}

// kinds and ids are right ones, at their limits, too.
func kinds() []string {
	return []string{"User", "A::B", "_", "A::B::C", "contains", "Action", strings.Repeat("T", 64), strings.Repeat("T", 31) + "::" + strings.Repeat("T", 31)}
}

func ids() []string {
	return []string{"a", "", "x y", `"`, `\*`, "\x00\n", "é", strings.Repeat("i", 64), strings.Repeat("é", 32)}
}

func anyUid(r *rand.Rand) api.Uid { return api.Uid{Type: oneOf(r, kinds()), Id: oneOf(r, ids())} }

// anyScope is a right scope by chance: of an action, or of a principal or a resource.
func anyScope(r *rand.Rand, ofAction bool) api.Scope {
	switch r.Intn(4) {
	case 0:
		return api.Scope{Kind: api.ScopeEqual, Uids: []api.Uid{anyUid(r)}}
	case 1:
		s := api.Scope{Kind: api.ScopeIn, Uids: []api.Uid{anyUid(r)}}
		for ofAction && r.Intn(2) == 0 && len(s.Uids) < 16 {
			s.Uids = append(s.Uids, anyUid(r))
		}
		return s
	case 2:
		if !ofAction {
			return is(oneOf(r, kinds()))
		}
	}
	return api.Scope{}
}

// anyPolicy is one by chance, right if its body is.
func anyPolicy(r *rand.Rand) api.Policy {
	p := api.Policy{Permit: r.Intn(2) == 0, Principal: anyScope(r, false), Action: anyScope(r, true), Resource: anyScope(r, false)}
	for range r.Intn(5) {
		p.Conds = append(p.Conds, api.Cond{Unless: r.Intn(2) == 0, Expr: anyExpr(r, 1+r.Intn(4))})
	}
	return p
}

// rightUids tells whether there are from least to most of them, each right.
func rightUids(l []api.Uid, least, most int) bool {
	for _, u := range l {
		if value.CheckUid(u) != api.OK {
			return false
		}
	}
	return least <= len(l) && len(l) <= most
}

// rightScope tells whether a scope is right, as chapter 9's words have it.
func rightScope(s api.Scope, ofAction bool) bool {
	many := map[bool]int{false: 1, true: 16}[ofAction]
	switch {
	case s.Kind == api.ScopeAny:
		return rightUids(s.Uids, 0, 0) && s.Type == ""
	case s.Kind == api.ScopeEqual:
		return rightUids(s.Uids, 1, 1) && s.Type == ""
	case s.Kind == api.ScopeIn:
		return rightUids(s.Uids, 1, many) && s.Type == ""
	}
	return s.Kind == api.ScopeIs && !ofAction && rightUids(s.Uids, 0, 0) && value.TypeName(s.Type)
}

// asked is what a right scope asks of a variable, as chapter 9's words have it.
func asked(name string, s api.Scope) api.Expr {
	var l []api.Expr
	for _, u := range s.Uids {
		l = append(l, being(u.Type, u.Id))
	}
	switch {
	case s.Kind == api.ScopeAny:
		return boolean(1)
	case s.Kind == api.ScopeEqual:
		return node(api.OpEqual, variable(name), l[0])
	case s.Kind == api.ScopeIs:
		return api.Expr{Op: api.OpIs, T: s.Type, Kids: []api.Expr{variable(name)}}
	case name == "action":
		return node(api.OpIn, variable(name), node(api.OpSet, l...))
	}
	return node(api.OpIn, variable(name), l[0])
}

// bodyOf is a policy's body, as chapter 9's words have it.
func bodyOf(p api.Policy) api.Expr {
	e := node(api.OpAnd, node(api.OpAnd, asked("principal", p.Principal), asked("action", p.Action)), asked("resource", p.Resource))
	for _, c := range p.Conds {
		one := c.Expr
		if c.Unless {
			one = node(api.OpNot, one)
		}
		e = node(api.OpAnd, e, one)
	}
	return e
}

// checked is what Check answers, as chapter 9's words have it.
func checked(p api.Policy) api.Errno {
	if !rightScope(p.Principal, false) || !rightScope(p.Action, true) || !rightScope(p.Resource, false) {
		return api.ErrSyntax
	}
	if len(p.Conds) > 16 {
		return api.ErrMany
	}
	for _, c := range p.Conds {
		if why := expr.Check(c.Expr); why != api.OK {
			return why
		}
	}
	return expr.Check(bodyOf(p))
}

// holds asks Check, Body and Print of a policy that is made by hand.
func holds(t *testing.T, name string, p api.Policy, want api.Errno) {
	t.Helper()
	before := policyAgain(p)
	if why := policy.Check(p); why != want {
		t.Errorf("%s: error %d, not %d", name, why, want)
	}
	e, why := policy.Body(p)
	if why != want || want != api.OK && !zero(e) || want == api.OK && !alike(e, bodyOf(p)) {
		t.Errorf("%s: Body is %v, error %d, not %d", name, e, why, want)
	}
	s, why := policy.Print(p)
	if why != want || (s == "") != (want != api.OK) {
		t.Errorf("%s: printed %.80q, error %d, not %d", name, s, why, want)
	}
	if !policiesAlike(p, before) {
		t.Errorf("%s: what was handed in is changed", name)
	}
}

// The sections Limits and Errors, as far as they speak of policies.
func TestLimitsAndErrors(t *testing.T) {
	if api.MaxLevel != 16 || api.MaxText != 2048 || api.MaxId != 64 || api.MaxNodes != 128 || api.MaxParts != 16 {
		t.Error("a limit is another one")
	}
	if api.OK != 0 || api.ErrMany != 2 || api.ErrLong != 3 || api.ErrDepth != 4 || api.ErrSyntax != 5 || api.ErrUtf != 6 {
		t.Error("an error's number is another one")
	}
	if api.ScopeAny != 0 || api.ScopeEqual != 1 || api.ScopeIn != 2 || api.ScopeIs != 3 || api.ScopeCount != 4 {
		t.Error("a scope's kind is another one")
	}
}

// Promise 9.1, and words: scopes in each of the three places, right ones and wrong ones.
func TestScopes(t *testing.T) {
	long65 := strings.Repeat("i", 65)
	wrongUids := []api.Uid{{}, {Type: "in", Id: "a"}, {Type: "A::", Id: "a"}, {Type: "A", Id: "\xff"}, {Type: "A", Id: long65}, {Type: long65, Id: "a"}, {Id: "a"}}
	l := []api.Scope{{}, {Uids: []api.Uid{}}, equal("A::x"), in("A::x"), is("A"), is("A::B"), is("Action"), is(strings.Repeat("T", 64)), is(""), is("in"), is("A::"), is(strings.Repeat("T", 65)), equal("A::"), equal("A::B::C"), in("Action::" + long65[:64])}
	for kind := range 256 {
		k := api.ScopeKind(kind)
		l = append(l, api.Scope{Kind: k}, api.Scope{Kind: k, Type: "A"}, api.Scope{Kind: k, Uids: uids("A::x")}, api.Scope{Kind: k, Uids: uids("A::x", "A::y")}, api.Scope{Kind: k, Uids: uids("A::x"), Type: "A"}, api.Scope{Kind: k, Uids: uids("A::x", "A::y"), Type: "A"})
	}
	for n := range 19 {
		l = append(l, api.Scope{Kind: api.ScopeIn, Uids: manyUids(n)}, api.Scope{Kind: api.ScopeEqual, Uids: manyUids(n)}, api.Scope{Kind: api.ScopeIs, Uids: manyUids(n), Type: "A"})
	}
	l = append(l, in("A::x", "A::x"), in("B::x", "A::x", "B::x"), api.Scope{Kind: api.ScopeIn, Uids: manyUids(1 << 16)})
	for _, u := range wrongUids {
		l = append(l, api.Scope{Kind: api.ScopeEqual, Uids: []api.Uid{u}}, api.Scope{Kind: api.ScopeIn, Uids: []api.Uid{u}}, api.Scope{Kind: api.ScopeIn, Uids: append(manyUids(3), u)}, api.Scope{Kind: api.ScopeIn, Uids: append([]api.Uid{u}, manyUids(3)...)}, api.Scope{Kind: api.ScopeAny, Uids: []api.Uid{u}})
	}
	tally := map[api.Errno]int{}
	for i, s := range l {
		for _, p := range []api.Policy{permit(s, api.Scope{}, api.Scope{}), permit(api.Scope{}, s, api.Scope{}), permit(api.Scope{}, api.Scope{}, s), permit(s, s, s, when(boolean(1)))} {
			holds(t, "scope "+strconv.Itoa(i), p, checked(p))
			tally[checked(p)]++
		}
	}
	if tally[api.OK] < 30 || tally[api.ErrSyntax] < 1000 {
		t.Errorf("how often: %v", tally)
	}
}

// Promise 9.1: how many conditions there may be, and their own errors, the first one ahead of the body's.
func TestConditions(t *testing.T) {
	yes, wrong := boolean(1), api.Expr{}
	record := api.Expr{Op: api.OpRecord, Names: []string{"a", "a"}, Kids: []api.Expr{yes, yes}}
	for _, x := range []struct {
		name string
		p    api.Policy
		want api.Errno
	}{
		{"none", open(), api.OK}, {"one", open(when(yes)), api.OK}, {"two", open(unless(yes), when(variable("context"))), api.OK}, {"not a bool", open(when(long(3))), api.OK},
		{"13", open(conds(13, yes)...), api.OK}, {"16", open(conds(16, yes)...), api.ErrDepth}, {"17", open(conds(17, yes)...), api.ErrMany}, {"18", open(conds(18, yes)...), api.ErrMany}, {"very many", open(conds(1<<16, yes)...), api.ErrMany},
		{"a wrong one", open(when(wrong)), api.ErrSyntax}, {"a wrong unless", open(unless(wrong)), api.ErrSyntax}, {"a wrong one behind", open(when(yes), when(yes), unless(long(-1))), api.ErrSyntax}, {"a name twice", open(when(record)), api.ErrSyntax},
		{"too deep a one", open(when(nested(17))), api.ErrDepth}, {"too great a one", open(when(wide(129))), api.ErrMany}, {"very deep", open(unless(nested(1 << 16))), api.ErrDepth},
		{"deep, then wrong", open(when(nested(17)), when(wrong)), api.ErrDepth}, {"wrong, then deep", open(when(wrong), when(nested(17))), api.ErrSyntax}, {"great, then deep", open(when(wide(129)), when(nested(17))), api.ErrMany}, {"deep, then great", open(when(nested(17)), when(wide(129))), api.ErrDepth}, {"great, then wrong", open(unless(wide(129)), unless(wrong)), api.ErrMany},
		{"the body too deep, then a great one", open(when(nested(16)), when(wide(129))), api.ErrMany}, {"the body too great, then a deep one", open(when(wide(128)), when(nested(17))), api.ErrDepth}, {"the body too deep, then a wrong one", open(when(nested(16)), when(wrong)), api.ErrSyntax},
		{"17, wrong", open(conds(17, wrong)...), api.ErrMany}, {"17, too deep", open(conds(17, nested(17))...), api.ErrMany}, {"16, wrong", open(conds(16, wrong)...), api.ErrSyntax},
		{"a wrong scope and 17", permit(is("in"), api.Scope{}, api.Scope{}, conds(17, yes)...), api.ErrSyntax}, {"17 actions and 17", permit(api.Scope{}, api.Scope{Kind: api.ScopeIn, Uids: manyUids(17)}, api.Scope{}, conds(17, yes)...), api.ErrSyntax}, {"16 actions and 17", permit(api.Scope{}, api.Scope{Kind: api.ScopeIn, Uids: manyUids(16)}, api.Scope{}, conds(17, yes)...), api.ErrMany}, {"17 actions and a deep one", permit(api.Scope{}, api.Scope{Kind: api.ScopeIn, Uids: manyUids(17)}, api.Scope{}, when(nested(17))), api.ErrSyntax}, {"a wrong scope and a deep one", permit(api.Scope{}, is("A"), api.Scope{}, when(nested(17))), api.ErrSyntax}, {"a wrong last scope and a great one", permit(api.Scope{}, api.Scope{}, in("A::x", "A::y"), when(wide(129))), api.ErrSyntax},
	} {
		holds(t, x.name, x.p, x.want)
		holds(t, x.name+", forbidden", with(x.p, func(p *api.Policy) { p.Permit = false }), x.want)
	}
}

// Promise 9.1: the body at its limits, and beyond them.
func TestBodysLimits(t *testing.T) {
	yes, x := boolean(1), equal("A::x")
	for _, y := range []struct {
		name string
		p    api.Policy
		want api.Errno
	}{
		{"14 conditions of open scopes", open(conds(14, yes)...), api.ErrDepth},
		{"12 behind a principal", permit(x, api.Scope{}, api.Scope{}, conds(12, yes)...), api.OK}, {"13 behind a principal", permit(x, api.Scope{}, api.Scope{}, conds(13, yes)...), api.ErrDepth},
		{"12 behind an action", permit(api.Scope{}, x, api.Scope{}, conds(12, yes)...), api.OK}, {"12 behind actions", permit(api.Scope{}, in("A::x", "A::y"), api.Scope{}, conds(12, yes)...), api.ErrDepth}, {"11 behind actions", permit(api.Scope{}, in("A::x", "A::y"), api.Scope{}, conds(11, yes)...), api.OK},
		{"13 behind a resource", permit(api.Scope{}, api.Scope{}, x, conds(13, yes)...), api.OK},
		{"when 15 deep", open(when(nested(15))), api.OK}, {"when 16 deep", open(when(nested(16))), api.ErrDepth}, {"unless 14 deep", open(unless(nested(14))), api.OK}, {"unless 15 deep", open(unless(nested(15))), api.ErrDepth},
		{"14 deep, then another", open(when(nested(14)), when(yes)), api.OK}, {"15 deep, then another", open(when(nested(15)), when(yes)), api.ErrDepth}, {"15 deep behind another", open(when(yes), when(nested(15))), api.OK},
		{"128 nodes", open(when(wide(122))), api.OK}, {"129 nodes", open(when(wide(123))), api.ErrMany}, {"128 nodes with unless", open(unless(wide(121))), api.OK}, {"129 nodes with unless", open(unless(wide(122))), api.ErrMany},
		{"128 nodes with scopes", permit(x, in("A::x", "A::y"), is("A"), when(wide(115))), api.OK}, {"129 nodes with scopes", permit(x, in("A::x", "A::y"), is("A"), when(wide(116))), api.ErrMany},
		{"16 actions", permit(x, api.Scope{Kind: api.ScopeIn, Uids: manyUids(16)}, x), api.OK},
		{"too deep, too great", open(when(nested(16)), when(wide(128))), api.ErrDepth}, {"too great, too deep", open(when(wide(128)), when(nested(16))), api.ErrDepth},
	} {
		holds(t, y.name, y.p, y.want)
	}
}

// anything is a policy made by hand, by chance: seldom right.
func anything(r *rand.Rand) api.Policy {
	p := anyPolicy(r)
	for range r.Intn(3) {
		s := oneOf(r, []*api.Scope{&p.Principal, &p.Action, &p.Resource})
		switch r.Intn(5) {
		case 0:
			s.Kind = api.ScopeKind(r.Intn(6))
		case 1:
			s.Type = oneOf(r, []string{"", "A", "A:B", "in", "\xff"})
		case 2:
			s.Uids = append(s.Uids, api.Uid{Type: oneOf(r, []string{"A", "", "is"}), Id: oneOf(r, []string{"a", "\xff"})})
		case 3:
			s.Uids = nil
		case 4:
			p.Conds = append(p.Conds, oneOf(r, [][]api.Cond{{when(api.Expr{})}, {unless(nested(17))}, {when(wide(129))}, conds(17, boolean(1)), {when(node(api.OpNot))}})...)
		}
	}
	return p
}

// Promise 9.1, P1 and P2: policies made by hand, by chance.
func TestAnyPolicies(t *testing.T) {
	r := rand.New(rand.NewSource(91))
	tally := map[api.Errno]int{}
	for i := range 20000 {
		p := anything(r)
		want := checked(p)
		tally[want]++
		holds(t, "policy "+strconv.Itoa(i), p, want)
	}
	if tally[api.OK] < 2000 || tally[api.ErrSyntax] < 2000 || tally[api.ErrMany] < 200 || tally[api.ErrDepth] < 200 {
		t.Errorf("how often: %v", tally)
	}
}

// Promise 9.1 of Body, words, and example 1.
func TestBody(t *testing.T) {
	yes := boolean(1)
	and := func(l ...api.Expr) api.Expr {
		e := l[0]
		for _, k := range l[1:] {
			e = node(api.OpAnd, e, k)
		}
		return e
	}
	user, doc := being("User", "a"), being("Doc", "d")
	p, a, s := variable("principal"), variable("action"), variable("resource")
	for _, x := range []struct {
		p    api.Policy
		want api.Expr
	}{
		{open(), and(yes, yes, yes)},
		{api.Policy{}, and(yes, yes, yes)},
		{permit(equal("User::a"), equal("Action::x"), equal("Doc::d")), and(node(api.OpEqual, p, user), node(api.OpEqual, a, being("Action", "x")), node(api.OpEqual, s, doc))},
		{permit(in("User::a"), in("Action::x"), in("Doc::d")), and(node(api.OpIn, p, user), node(api.OpIn, a, node(api.OpSet, being("Action", "x"))), node(api.OpIn, s, doc))},
		{permit(is("User"), in("Action::y", "Action::x", "Action::y"), is("A::Doc")), and(api.Expr{Op: api.OpIs, T: "User", Kids: []api.Expr{p}}, node(api.OpIn, a, node(api.OpSet, being("Action", "y"), being("Action", "x"), being("Action", "y"))), api.Expr{Op: api.OpIs, T: "A::Doc", Kids: []api.Expr{s}})},
		{open(when(attr(p, "a")), unless(attr(p, "b")), when(and(yes, long(1)))), and(yes, yes, yes, attr(p, "a"), node(api.OpNot, attr(p, "b")), and(yes, long(1)))},
		{open(unless(node(api.OpNot, yes))), and(yes, yes, yes, node(api.OpNot, node(api.OpNot, yes)))},
	} {
		e, why := policy.Body(x.p)
		if !alike(e, x.want) || why != api.OK {
			t.Errorf("%v: %v, error %d; not %v", x.p, e, why, x.want)
		}
	}
	q, _, _ := policy.Parse("permit(principal,action,resource);")
	e, _ := policy.Body(q)
	if s, why := expr.Print(e); s != "((true && true) && true)" || why != api.OK {
		t.Errorf("example 1: %q, error %d", s, why)
	}
}

// few is a policy of few kinds, by chance, so that two of them often have one body.
func few(r *rand.Rand) api.Policy {
	scopes := []api.Scope{{}, equal("A::x"), in("A::x")}
	p := api.Policy{Permit: r.Intn(2) == 0, Principal: oneOf(r, scopes), Action: oneOf(r, scopes), Resource: oneOf(r, scopes)}
	e := []api.Expr{boolean(1), node(api.OpNot, boolean(1)), node(api.OpAnd, boolean(1), boolean(1))}
	for range r.Intn(3) {
		p.Conds = append(p.Conds, api.Cond{Unless: r.Intn(2) == 0, Expr: oneOf(r, e)})
	}
	return p
}

// plain is a policy said another way: it permits, and has no unless.
func plain(p api.Policy) api.Policy {
	p = policyAgain(p)
	p.Permit = true
	for i, c := range p.Conds {
		if c.Unless {
			p.Conds[i] = when(node(api.OpNot, c.Expr))
		}
	}
	return p
}

// Promise 9.5: policies have one body just if they are the same, but for Permit and for unless being said as when not.
func TestOneBody(t *testing.T) {
	r := rand.New(rand.NewSource(95))
	same := 0
	for range 60000 {
		p, q := few(r), few(r)
		a, why := policy.Body(p)
		b, no := policy.Body(q)
		if why != api.OK || no != api.OK || alike(a, b) != policiesAlike(plain(p), plain(q)) {
			t.Fatalf("%v and %v: bodies %v, error %d, and %v, error %d", p, q, a, why, b, no)
		}
		if alike(a, b) {
			same++
		}
	}
	if same < 200 {
		t.Errorf("%d have one body", same)
	}
}

// spoil writes over all that an expression's lists have, and over the room behind them.
func spoil(e api.Expr) {
	for i := range e.Names[:cap(e.Names)] {
		e.Names[:cap(e.Names)][i] = "spoilt"
	}
	for i := range e.Kids[:cap(e.Kids)] {
		spoil(e.Kids[:cap(e.Kids)][i])
		e.Kids[:cap(e.Kids)][i] = boolean(7)
	}
}

// spoilUids writes over all that a list has, and over the room behind it.
func spoilUids(l []api.Uid) {
	for i := range l[:cap(l)] {
		l[:cap(l)][i] = uid("Spoilt::x")
	}
}

// Promise 9.3, and P3: answers are new memory, no two lists of one share any, and what is handed in is neither changed nor kept.
func TestNewMemory(t *testing.T) {
	s := `permit(principal == A::"x", action in [A::"x", A::"y"], resource in A::"x") when { [1, {a: 2, b: [3]}] } unless { [1, {a: 2, b: [3]}] };`
	want, why, _ := policy.Parse(s)
	if why != api.OK {
		t.Fatal("error", why)
	}
	want = policyAgain(want)
	spoils := []func(p api.Policy){
		func(p api.Policy) { spoilUids(p.Principal.Uids) },
		func(p api.Policy) { spoilUids(p.Action.Uids) },
		func(p api.Policy) { spoilUids(p.Resource.Uids) },
		func(p api.Policy) { spoil(p.Conds[0].Expr) },
		func(p api.Policy) { spoil(p.Conds[1].Expr) },
	}
	same := []func(p api.Policy) bool{
		func(p api.Policy) bool { return scopesAlike(p.Principal, want.Principal) },
		func(p api.Policy) bool { return scopesAlike(p.Action, want.Action) },
		func(p api.Policy) bool { return scopesAlike(p.Resource, want.Resource) },
		func(p api.Policy) bool { return condsAlike(p.Conds[0], want.Conds[0]) },
		func(p api.Policy) bool { return condsAlike(p.Conds[1], want.Conds[1]) },
	}
	for i := range spoils {
		one, _, _ := policy.Parse(s)
		other, _, _ := policy.Parse(s)
		spoils[i](one)
		for j := range same {
			if j != i && !same[j](one) {
				t.Errorf("two lists of an answer share memory: those of %d and %d", i, j)
			}
		}
		if !policiesAlike(other, want) {
			t.Error("two answers share memory")
		}
	}
	p := policyAgain(want)
	p.Conds[1].Expr = p.Conds[0].Expr
	e, _ := policy.Body(p)
	body := bodyOf(policyAgain(p))
	spoil(e.Kids[1])
	if !alike(e.Kids[0], body.Kids[0]) {
		t.Error("two lists of a body share memory")
	}
	spoil(e)
	if !alike(p.Conds[0].Expr, want.Conds[0].Expr) || !scopesAlike(p.Action, want.Action) {
		t.Error("a body shares memory with what was handed in")
	}
	e, _ = policy.Body(p)
	spoil(p.Conds[0].Expr)
	spoilUids(p.Action.Uids)
	if !alike(e, body) {
		t.Error("what was handed in is kept")
	}
}

// Promise 9.3: what is handed in with room behind its lists is not changed, there neither.
func TestRoomBehind(t *testing.T) {
	p := permit(equal("A::x"), in("A::x", "A::y"), api.Scope{}, when(boolean(1)), when(boolean(0)))
	p.Action.Uids = append(p.Action.Uids, uid("Z::z"))[:2]
	p.Conds = append(p.Conds, unless(long(9)))[:2]
	holds(t, "with room", p, api.OK)
	if p.Action.Uids[:3][2] != uid("Z::z") || !condsAlike(p.Conds[:3][2], unless(long(9))) {
		t.Error("what lies behind a list is changed")
	}
}

// P4.
func TestNoGoroutineIsLeft(t *testing.T) {
	before := runtime.NumGoroutine()
	for _, s := range []string{"permit(principal,action,resource) when { 1 };", "permit(", "permit(principal,action,resource) when { {a: 1, a: 2} };"} {
		p, _, _ := policy.Parse(s)
		policy.Check(p)
		policy.Print(p)
		policy.Body(p)
	}
	if after := runtime.NumGoroutine(); after > before {
		t.Errorf("%d goroutines, before %d", after, before)
	}
}
