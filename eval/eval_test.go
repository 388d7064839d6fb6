package eval_test

import (
	"math"
	"math/rand"
	"reflect"
	"runtime"
	"slices"
	"strings"
	"testing"

	"lictor/api"
	"lictor/entity"
	"lictor/eval"
	"lictor/expr"
	"lictor/value"
)

func boolean(b bool) api.Value { return api.Value{Kind: api.KindBool, B: b} }

func long(n int64) api.Value { return api.Value{Kind: api.KindLong, N: n} }

func text(s string) api.Value { return api.Value{Kind: api.KindString, S: s} }

// set is one of parts as they stand.
func set(parts ...api.Value) api.Value { return api.Value{Kind: api.KindSet, List: parts} }

// record is one of names with commas between, and parts, as they stand.
func record(names string, parts ...api.Value) api.Value {
	v := api.Value{Kind: api.KindRecord, List: parts}
	if names != "" {
		v.Names = strings.Split(names, ",")
	}
	return v
}

// node is an op of Kids alone.
func node(op api.Op, kids ...api.Expr) api.Expr { return api.Expr{Op: op, Kids: kids} }

// parsed is the expression of a text.
func parsed(t *testing.T, s string) api.Expr {
	t.Helper()
	e, why, place := expr.Parse(s)
	if why != api.OK {
		t.Fatalf("%q: error %d at %d", s, why, place)
	}
	return e
}

// meant is the value of a text.
func meant(t *testing.T, s string) api.Value {
	t.Helper()
	v, why := entity.Value(parsed(t, s))
	if why != api.OK {
		t.Fatalf("%q: error %d", s, why)
	}
	return v
}

// row is the entities of texts, in order.
func row(t *testing.T, l ...string) []api.Entity {
	t.Helper()
	var out []api.Entity
	for _, s := range l {
		e, why, place := entity.Parse(s)
		if why != api.OK {
			t.Fatalf("%q: error %d at %d", s, why, place)
		}
		if out, why = entity.Put(out, e); why != api.OK {
			t.Fatalf("%q: error %d", s, why)
		}
	}
	return out
}

// people are the entities of most tests: a is in h, and that in g; d's directory is none of them, and who made it is none.
func people(t *testing.T) []api.Entity {
	return row(t, `Group::"g" {};`, `Group::"h" in [Group::"g"] {};`,
		`User::"a" in [Group::"h"] {age: 3, boss: User::"b", tags: ["x", "y"], r: {n: 1, "x y": true}};`, `User::"b" {age: -1, in_: [Group::"g"]};`,
		`Doc::"d" in [Dir::"none"] {owner: User::"a", maker: User::"none", least: -9223372036854775807 - 1};`)
}

// view is what most tests ask.
func view(t *testing.T) api.Request {
	return api.Request{Principal: api.Uid{Type: "User", Id: "a"}, Action: api.Uid{Type: "Action", Id: "view"}, Resource: api.Uid{Type: "Doc", Id: "d"}, Context: meant(t, `{far: false, ip: "10.0.0.1", most: 9223372036854775807, s: [1, 2], who: User::"none"}`)}
}

// alike tells whether two values are the same; nil and empty lists are.
func alike(a, b api.Value) bool {
	return a.Kind == b.Kind && a.B == b.B && a.N == b.N && a.S == b.S && a.T == b.T && slices.Equal(a.Names, b.Names) && slices.EqualFunc(a.List, b.List, alike)
}

// again is the same value in memory of its own.
func again(v api.Value) api.Value {
	v.Names, v.List = slices.Clone(v.Names), slices.Clone(v.List)
	for i := range v.List {
		v.List[i] = again(v.List[i])
	}
	return v
}

// zero tells whether an answer is the zero one.
func zero(v any) bool { return reflect.ValueOf(v).IsZero() }

// oneOf is one of a list by chance.
func oneOf[T any](r *rand.Rand, l []T) T { return l[r.Intn(len(l))] }

// The section Errors, as far as it speaks of what expressions come to.
func TestErrors(t *testing.T) {
	if api.OK != 0 || api.ErrMany != 2 || api.ErrLong != 3 || api.ErrDepth != 4 || api.ErrSyntax != 5 || api.ErrUtf != 6 || api.ErrType != 7 || api.ErrMissing != 8 || api.ErrUnknown != 9 || api.ErrOver != 11 || api.ErrCycle != 12 {
		t.Error("an error's number is another one")
	}
}

// wrongRequests are requests that are not right, and why.
func wrongRequests(t *testing.T) []struct {
	name string
	q    api.Request
	want api.Errno
} {
	long65 := strings.Repeat("i", 65)
	none, utf, far := api.Uid{Type: "in"}, api.Uid{Type: "U", Id: "\xff"}, api.Uid{Type: "U", Id: long65}
	deep := record("a", long(1))
	for range 7 {
		deep = record("a", deep)
	}
	wide := record("")
	for _, name := range strings.Split("abcdefghijklmnop", "") {
		wide.Names, wide.List = append(wide.Names, name), append(wide.List, set(long(1), long(2), long(3), long(4), long(5), long(6), long(7)))
	}
	with := func(p, a, r api.Uid, c api.Value) api.Request {
		q := view(t)
		for to, u := range map[*api.Uid]api.Uid{&q.Principal: p, &q.Action: a, &q.Resource: r} {
			if !zero(u) {
				*to = u
			}
		}
		if !zero(c) {
			q.Context = c
		}
		return q
	}
	nothing, right := api.Uid{}, api.Value{}
	return []struct {
		name string
		q    api.Request
		want api.Errno
	}{
		{"nothing", api.Request{}, api.ErrSyntax}, {"a Principal of no type", with(none, nothing, nothing, right), api.ErrSyntax}, {"an Action of no type", with(nothing, none, nothing, right), api.ErrSyntax}, {"a Resource of no type", with(nothing, nothing, none, right), api.ErrSyntax},
		{"Principal ahead of Action", with(utf, far, none, api.Value{Kind: 9}), api.ErrUtf}, {"Action ahead of Resource", with(nothing, far, utf, api.Value{Kind: 9}), api.ErrLong}, {"Resource ahead of Context", with(nothing, nothing, utf, api.Value{Kind: 9}), api.ErrUtf}, {"Principal too long", with(far, utf, utf, right), api.ErrLong},
		{"a Context of no kind", with(nothing, nothing, nothing, api.Value{Kind: 9}), api.ErrType}, {"a Context too deep", with(nothing, nothing, nothing, record("a", deep)), api.ErrDepth}, {"a Context as deep as may be", with(nothing, nothing, nothing, deep.List[0]), api.OK}, {"a set too deep", with(nothing, nothing, nothing, set(deep)), api.ErrDepth}, {"a Context too great", with(nothing, nothing, nothing, wide), api.ErrMany},
		{"a set", with(nothing, nothing, nothing, set()), api.ErrType}, {"a long", with(nothing, nothing, nothing, long(1)), api.ErrType}, {"an entity", with(nothing, nothing, nothing, api.Value{Kind: api.KindEntity, T: "U", S: "a"}), api.ErrType}, {"true", with(nothing, nothing, nothing, boolean(true)), api.ErrType}, {"a record not in order", with(nothing, nothing, nothing, record("b,a", long(1), long(2))), api.ErrType}, {"an empty record", with(nothing, nothing, nothing, record("")), api.OK}, {"right", view(t), api.OK},
		{"no Context", api.Request{Principal: api.Uid{Type: "U"}, Action: api.Uid{Type: "U"}, Resource: api.Uid{Type: "U"}}, api.ErrType}, {"Ids without a byte, and one for all", api.Request{Principal: api.Uid{Type: "U"}, Action: api.Uid{Type: "U"}, Resource: api.Uid{Type: "U"}, Context: record("")}, api.OK}, {"an Id at its limit", with(api.Uid{Type: "U", Id: long65[1:]}, nothing, nothing, right), api.OK},
	}
}

// Promise 12.1 of Check, and words: the first error that applies.
func TestCheck(t *testing.T) {
	for _, x := range wrongRequests(t) {
		before := again(x.q.Context)
		if why := eval.Check(x.q); why != x.want {
			t.Errorf("%s: error %d, not %d", x.name, why, x.want)
		}
		if v, why := eval.Eval(parsed(t, "1"), x.q, nil); why != x.want || x.want != api.OK && !zero(v) || x.want == api.OK && !alike(v, long(1)) {
			t.Errorf("%s, Eval: %v, error %d", x.name, v, why)
		}
		if b, why := eval.Holds(parsed(t, "true"), x.q, nil); why != x.want || b != (x.want == api.OK) {
			t.Errorf("%s, Holds: %t, error %d", x.name, b, why)
		}
		if !alike(x.q.Context, before) {
			t.Errorf("%s: what was handed in is changed", x.name)
		}
	}
}

// Promise 12.2: the expression's error goes ahead of the request's, that one ahead of the entities', and all of them ahead of what it comes to.
func TestErrorsInOrder(t *testing.T) {
	e, q := parsed(t, "1 + true"), view(t)
	badExpr, badRequest := node(api.OpNot), api.Request{Principal: api.Uid{Type: "U", Id: "\xff"}}
	deep := node(api.OpNot, node(api.OpBool))
	for range 20 {
		deep = node(api.OpNot, deep)
	}
	badRow := []api.Entity{people(t)[1], people(t)[0]}
	round := row(t, `A::"a" in [A::"b"] {};`, `A::"b" {};`)
	round[1].Parents = []api.Uid{round[0].Uid}
	for _, x := range []struct {
		name string
		e    api.Expr
		q    api.Request
		l    []api.Entity
		want api.Errno
	}{
		{"all", badExpr, badRequest, round, api.ErrSyntax}, {"all, too deep", deep, badRequest, round, api.ErrDepth}, {"the request", e, badRequest, round, api.ErrUtf}, {"the entities", e, q, round, api.ErrCycle}, {"the entities, not in order", e, q, badRow, api.ErrSyntax}, {"what it comes to", e, q, people(t), api.ErrType}, {"the entities, of no matter", parsed(t, "true"), q, round, api.ErrCycle}, {"an expression that is none", api.Expr{}, q, nil, api.ErrSyntax},
		{"one that is there twice", e, q, []api.Entity{round[0], round[0]}, api.ErrTwice}, {"too many", e, q, make([]api.Entity, 65), api.ErrMany}, {"one that is none", e, q, make([]api.Entity, 1), api.ErrSyntax},
	} {
		if v, why := eval.Eval(x.e, x.q, x.l); !zero(v) || why != x.want {
			t.Errorf("%s: %v, error %d, not %d", x.name, v, why, x.want)
		}
		if b, why := eval.Holds(x.e, x.q, x.l); b || why != x.want {
			t.Errorf("%s, Holds: %t, error %d, not %d", x.name, b, why, x.want)
		}
	}
}

// comes holds what an expression of a text comes to against the value of a text.
func comes(t *testing.T, s, want string) {
	t.Helper()
	e := parsed(t, s)
	v, why := eval.Eval(e, view(t), people(t))
	if w := meant(t, want); why != api.OK || !alike(v, w) {
		t.Errorf("%s comes to %v, error %d; not %s", s, v, why, want)
	}
	if b, why := eval.Holds(e, view(t), people(t)); v.Kind == api.KindBool && (b != v.B || why != api.OK) || v.Kind != api.KindBool && (b || why != api.ErrType) {
		t.Errorf("%s holds: %t, error %d", s, b, why)
	}
}

// Words: what each op comes to.
func TestEval(t *testing.T) {
	for s, want := range map[string]string{
		`true`: `true`, `false`: `false`, `0`: `0`, `9223372036854775807`: `9223372036854775807`, `"a\n"`: `"a\n"`, `A::B::"x"`: `A::B::"x"`, `User::"none"`: `User::"none"`,
		`principal`: `User::"a"`, `action`: `Action::"view"`, `resource`: `Doc::"d"`, `context`: `{far: false, ip: "10.0.0.1", most: 9223372036854775807, s: [1, 2], who: User::"none"}`,
		`[]`: `[]`, `[2, 1, 2, 3 - 1]`: `[1, 2]`, `[context, principal, "b", "a", -1, true]`: `[true, -1, "a", "b", User::"a", {far: false, ip: "10.0.0.1", most: 9223372036854775807, s: [1, 2], who: User::"none"}]`, `[[2, 1], [1, 2, 1]]`: `[[1, 2]]`, `[resource, principal]`: `[Doc::"d", User::"a"]`,
		`{}`: `{}`, `{b: 1 + 1, "a x": principal, c: {}}`: `{"a x": User::"a", b: 2, c: {}}`, `{c: 3, b: 2, a: 1}`: `{a: 1, b: 2, c: 3}`,
		`context.ip`: `"10.0.0.1"`, `context["s"]`: `[1, 2]`, `{a: {b: 7}}.a.b`: `7`, `{"x y": 1}["x y"]`: `1`, `principal.age`: `3`, `principal["tags"]`: `["x", "y"]`, `principal.r["x y"]`: `true`, `principal.boss.age`: `-1`, `resource.owner.boss.in_`: `[Group::"g"]`, `User::"b".age`: `-1`, `resource.owner`: `User::"a"`, `resource.least`: `-9223372036854775807 - 1`,
		`context has ip`: `true`, `context has iq`: `false`, `{"x y": 1} has "x y"`: `true`, `{} has a`: `false`, `principal has age`: `true`, `principal has none`: `false`, `User::"none" has age`: `false`, `resource.maker has age`: `false`, `action has a`: `false`, `principal.r has n`: `true`, `principal.boss has tags`: `false`,
		`principal is User`: `true`, `principal is Group`: `false`, `resource.maker is User`: `true`, `A::B::"x" is A::B`: `true`, `A::B::"x" is A`: `false`, `A::"x" is A::B`: `false`, `action is Action`: `true`,
		`context.ip like "10.*"`: `true`, `context.ip like "11.*"`: `false`, `"a*" like "a\*"`: `true`, `"ab" like "a\*"`: `false`,
		`!true`: `false`, `!context.far`: `true`, `-5`: `-5`, `- -5`: `5`, `-principal.boss.age`: `1`, `-context.most`: `-9223372036854775807`, `-0`: `0`,
		`if true then 1 else 2`: `1`, `if false then 1 else 2`: `2`, `if context.far then 1 + true else "b"`: `"b"`, `if !context.far then "a" else context.none`: `"a"`, `if 1 < 2 then if false then 1 else [2] else 3`: `[2]`,
		`true && true`: `true`, `true && false`: `false`, `false && true`: `false`, `false && false`: `false`, `false && 1`: `false`, `false && (1 + true)`: `false`, `false && context.none`: `false`, `true || true`: `true`, `true || false`: `true`, `false || true`: `true`, `false || false`: `false`, `true || 1`: `true`, `true || -true`: `true`, `true || principal.none == 1`: `true`, `false && 1 && 2`: `false`, `true && false && 1`: `false`, `false || true || 1`: `true`,
		`1 == 1`: `true`, `1 == 2`: `false`, `1 != 2`: `true`, `1 != 1`: `false`, `1 == true`: `false`, `1 != "1"`: `true`, `[1, 2] == [2, 1, 1]`: `true`, `{a: 1, b: 2} == {b: 2, a: 1}`: `true`, `{a: 1} == {b: 1}`: `false`, `[] == {}`: `false`, `principal == User::"a"`: `true`, `principal != User::"b"`: `true`, `"a" == A::"a"`: `false`, `User::"none" == context.who`: `true`, `context == context`: `true`,
		`1 < 2`: `true`, `2 < 2`: `false`, `3 < 2`: `false`, `1 <= 2`: `true`, `2 <= 2`: `true`, `3 <= 2`: `false`, `1 > 2`: `false`, `2 > 2`: `false`, `3 > 2`: `true`, `1 >= 2`: `false`, `2 >= 2`: `true`, `3 >= 2`: `true`, `resource.least < context.most`: `true`, `resource.least > context.most`: `false`, `-1 < 0`: `true`,
		`1 + 2`: `3`, `1 - 2`: `-1`, `3 * -2`: `-6`, `context.most - 1`: `9223372036854775806`, `resource.least + context.most`: `-1`, `resource.least * 1`: `-9223372036854775807 - 1`, `-1 - context.most`: `-9223372036854775807 - 1`, `2 + 3 * 4 - 5`: `9`,
		`principal in Group::"g"`: `true`, `principal in Group::"h"`: `true`, `principal in principal`: `true`, `principal in User::"b"`: `false`, `Group::"g" in principal`: `false`, `Group::"h" in Group::"g"`: `true`, `resource in Dir::"none"`: `true`, `Dir::"none" in Dir::"none"`: `true`, `Dir::"none" in Doc::"d"`: `false`, `principal in Group::"none"`: `false`, `context.who in User::"none"`: `true`,
		`principal in []`: `false`, `principal in [Group::"none", Group::"g"]`: `true`, `principal in [User::"b", Doc::"d"]`: `false`, `principal in [principal]`: `true`, `principal in User::"b".in_`: `true`, `action in [Action::"view", Action::"edit"]`: `true`, `action in [Action::"edit"]`: `false`,
		`[1, 2].contains(2)`: `true`, `[1, 2].contains(3)`: `false`, `[].contains([])`: `false`, `[[]].contains([])`: `true`, `context.s.contains(1)`: `true`, `context.s.contains("1")`: `false`, `principal.tags.contains("y")`: `true`, `[context].contains(context)`: `true`,
		`[1, 2].containsAll([])`: `true`, `[1, 2].containsAll([2])`: `true`, `[1, 2].containsAll([2, 1])`: `true`, `[1, 2].containsAll([2, 3])`: `false`, `[].containsAll([])`: `true`, `[].containsAll([1])`: `false`, `[1].containsAll(context.s)`: `false`, `context.s.containsAll([1])`: `true`,
		`[1, 2].containsAny([])`: `false`, `[1, 2].containsAny([2])`: `true`, `[1, 2].containsAny([3, 2])`: `true`, `[1, 2].containsAny([3, 4])`: `false`, `[].containsAny([])`: `false`, `[].containsAny([1])`: `false`, `[3].containsAny(context.s)`: `false`, `[2].containsAny(context.s)`: `true`,
	} {
		comes(t, s, want)
	}
}

// Words: to which errors each op comes.
func TestEvalOfErrors(t *testing.T) {
	for s, want := range map[string]api.Errno{
		`context.none`: api.ErrMissing, `{}.a`: api.ErrMissing, `{a: 1}["A"]`: api.ErrMissing, `principal.none`: api.ErrMissing, `principal.boss.boss`: api.ErrMissing, `context.who.age`: api.ErrUnknown, `User::"none".age`: api.ErrUnknown, `action.a`: api.ErrUnknown, `resource.maker.age`: api.ErrUnknown, `Dir::"none".a`: api.ErrUnknown, `user::"a".age`: api.ErrUnknown,
		`1.a`: api.ErrType, `"a".a`: api.ErrType, `true.a`: api.ErrType, `[].a`: api.ErrType, `[{a: 1}].a`: api.ErrType, `principal.age.a`: api.ErrType, `1 has a`: api.ErrType, `"a" has a`: api.ErrType, `[] has a`: api.ErrType, `true has a`: api.ErrType, `context.none has a`: api.ErrMissing, `User::"none".a has b`: api.ErrUnknown, `principal.age has a`: api.ErrType,
		`1 is A`: api.ErrType, `context is A`: api.ErrType, `"a" is A`: api.ErrType, `[principal] is User`: api.ErrType, `true is A`: api.ErrType, `1 like "1"`: api.ErrType, `principal like "a"`: api.ErrType, `["a"] like "a"`: api.ErrType, `true like "*"`: api.ErrType, `context like "*"`: api.ErrType,
		`!1`: api.ErrType, `!"true"`: api.ErrType, `![]`: api.ErrType, `!principal`: api.ErrType, `-true`: api.ErrType, `-"1"`: api.ErrType, `-[1]`: api.ErrType, `-resource.least`: api.ErrOver, `-context`: api.ErrType,
		`if 1 then 2 else 3`: api.ErrType, `if "a" then 2 else 3`: api.ErrType, `if context.none then 2 else 3`: api.ErrMissing, `if true then 1 + true else 2`: api.ErrType, `if false then 1 else context.none`: api.ErrMissing, `if principal then context.none else 1 + true`: api.ErrType,
		`1 && true`: api.ErrType, `1 && false`: api.ErrType, `true && 1`: api.ErrType, `1 || true`: api.ErrType, `false || 1`: api.ErrType, `0 || true`: api.ErrType, `[] && true`: api.ErrType, `context.none && false`: api.ErrMissing, `true && context.none`: api.ErrMissing, `false || User::"none".a`: api.ErrUnknown, `1 && context.none`: api.ErrType, `1 || User::"none".a`: api.ErrType, `true && true && 1`: api.ErrType, `false || false || "a"`: api.ErrType,
		`1 < true`: api.ErrType, `true < 1`: api.ErrType, `"a" < "b"`: api.ErrType, `[] <= []`: api.ErrType, `1 > "a"`: api.ErrType, `principal >= 1`: api.ErrType, `context <= context`: api.ErrType, `false < true`: api.ErrType,
		`1 + true`: api.ErrType, `true + 1`: api.ErrType, `"a" + "b"`: api.ErrType, `1 - "a"`: api.ErrType, `"a" - 1`: api.ErrType, `[] * 1`: api.ErrType, `1 * {}`: api.ErrType, `context.most + 1`: api.ErrOver, `1 + context.most`: api.ErrOver, `resource.least - 1`: api.ErrOver, `0 - resource.least`: api.ErrOver, `context.most * 2`: api.ErrOver, `resource.least * -1`: api.ErrOver, `context.most - -1`: api.ErrOver, `resource.least + -1`: api.ErrOver,
		`1 in principal`: api.ErrType, `principal in 1`: api.ErrType, `principal in "a"`: api.ErrType, `principal in context`: api.ErrType, `principal in [1]`: api.ErrType, `principal in [principal, 1]`: api.ErrType, `principal in [1, principal]`: api.ErrType, `principal in [[principal]]`: api.ErrType, `1 in []`: api.ErrType, `[principal] in principal`: api.ErrType, `[] in []`: api.ErrType, `context in principal`: api.ErrType, `"a" in [Group::"g"]`: api.ErrType,
		`1.contains(1)`: api.ErrType, `"a".contains("a")`: api.ErrType, `context.contains(1)`: api.ErrType, `principal.contains(principal)`: api.ErrType, `{}.contains({})`: api.ErrType, `1.containsAll([1])`: api.ErrType, `[1].containsAll(1)`: api.ErrType, `[1].containsAll({})`: api.ErrType, `[].containsAll(1)`: api.ErrType, `{}.containsAll([])`: api.ErrType, `1.containsAll([])`: api.ErrType, `1.containsAny([1])`: api.ErrType, `[1].containsAny(1)`: api.ErrType, `{}.containsAny([])`: api.ErrType, `[].containsAny({})`: api.ErrType, `"a".containsAny([])`: api.ErrType,
	} {
		if v, why := eval.Eval(parsed(t, s), view(t), people(t)); !zero(v) || why != want {
			t.Errorf("%s comes to %v, error %d, not %d", s, v, why, want)
		}
		if b, why := eval.Holds(parsed(t, s), view(t), people(t)); b || why != want {
			t.Errorf("%s holds: %t, error %d, not %d", s, b, why, want)
		}
	}
}

// Words: the first error of the Kids, from the left, ahead of that of the op itself.
func TestFirstError(t *testing.T) {
	missing, unknown, over := `context.none`, `User::"none".a`, `(context.most + 1)`
	for s, want := range map[string]api.Errno{
		missing + ` == ` + over: api.ErrMissing, over + ` == ` + missing: api.ErrOver, over + ` + ` + unknown: api.ErrOver, unknown + ` + ` + over: api.ErrUnknown, `[1, ` + over + `, ` + missing + `]`: api.ErrOver, `{b: ` + missing + `, a: ` + over + `}`: api.ErrMissing, `{b: 1, a: ` + over + `, "0": ` + missing + `}`: api.ErrOver, `[` + missing + `, 1 + true]`: api.ErrMissing, `[1 + true, ` + missing + `]`: api.ErrType,
		`true + ` + over: api.ErrOver, `true < ` + missing: api.ErrMissing, `"a" - ` + unknown: api.ErrUnknown, `1 in ` + over: api.ErrOver, `1.contains(` + missing + `)`: api.ErrMissing, `1.containsAll(` + unknown + `)`: api.ErrUnknown, `{}.containsAny(` + over + `)`: api.ErrOver, `principal in [1, ` + missing + `]`: api.ErrMissing, `1 in [` + unknown + `]`: api.ErrUnknown,
		`-` + missing: api.ErrMissing, `!` + over: api.ErrOver, `-(` + unknown + ` like "a")`: api.ErrUnknown, over + ` is A`: api.ErrOver, missing + ` has a`: api.ErrMissing, over + `.a`: api.ErrOver, `if ` + over + ` then ` + missing + ` else 1`: api.ErrOver, `if 1 then ` + over + ` else ` + missing: api.ErrType, `1 && ` + over: api.ErrType, over + ` && 1`: api.ErrOver, `1 || ` + over: api.ErrType,
	} {
		if v, why := eval.Eval(parsed(t, s), view(t), people(t)); !zero(v) || why != want {
			t.Errorf("%s comes to %v, error %d, not %d", s, v, why, want)
		}
	}
}

// Promise 12.4: what tells alone, whatever stands behind it.
func TestPartsNotLookedAt(t *testing.T) {
	r := rand.New(rand.NewSource(124))
	q, l, errors := view(t), people(t), 0
	for range 5000 {
		e := anyExpr(r, 4)
		if _, why := eval.Eval(e, q, l); why != api.OK {
			errors++
		}
		if expr.Check(node(api.OpIf, e, e, e)) != api.OK {
			continue
		}
		no, yes := node(api.OpBool), api.Expr{Op: api.OpBool, N: 1}
		for want, whole := range map[bool]api.Expr{false: node(api.OpAnd, no, e), true: node(api.OpOr, yes, e)} {
			if b, why := eval.Holds(whole, q, l); b != want || why != api.OK {
				t.Fatalf("%v: %t, error %d", whole, b, why)
			}
			if v, why := eval.Eval(node(api.OpIf, whole, no, e), q, l); want && (!alike(v, boolean(false)) || why != api.OK) {
				t.Fatalf("if %v: %v, error %d", whole, v, why)
			}
			if v, why := eval.Eval(node(api.OpIf, whole, e, yes), q, l); !want && (!alike(v, boolean(true)) || why != api.OK) {
				t.Fatalf("if %v: %v, error %d", whole, v, why)
			}
		}
	}
	if errors < 1000 {
		t.Errorf("%d expressions come to an error", errors)
	}
}

// Promise 12.5, and example 1: sums and orders of numbers around all edges.
func TestArithmetic(t *testing.T) {
	var edges []int64
	for _, n := range []int64{0, 1 << 31, 3037000500, 1 << 62, math.MaxInt64, math.MinInt64} {
		for d := int64(-2); d <= 2; d++ {
			edges = append(edges, n+d, -n+d)
		}
	}
	asked := func(s string, a, b int64) (api.Value, api.Errno) {
		q := view(t)
		q.Context = record("a,b", long(a), long(b))
		return eval.Eval(parsed(t, s), q, nil)
	}
	for _, a := range edges {
		for _, b := range edges {
			for op, sign := range map[string]byte{"+": '+', "-": '-', "*": '*'} {
				want, reason := value.Sum(sign, a, b)
				v, why := asked(`context.a `+op+` context.b`, a, b)
				if why != reason || why == api.OK && !alike(v, long(want)) {
					t.Fatalf("%d %s %d: %v, error %d", a, op, b, v, why)
				}
			}
			less, _ := asked(`context.a - context.b`, a, b)
			turned, why := asked(`context.a + -context.b`, a, b)
			if why == api.OK && !zero(less) && !alike(less, turned) {
				t.Fatalf("%d - %d: %v, %v", a, b, less, turned)
			}
			for s, want := range map[string]bool{`context.a < context.b`: a < b, `!(context.b <= context.a)`: a < b, `context.b > context.a`: a < b, `!(context.a >= context.b)`: a < b, `context.a == context.b`: a == b} {
				if v, why := asked(s, a, b); !alike(v, boolean(want)) || why != api.OK {
					t.Fatalf("%s of %d, %d: %v, error %d", s, a, b, v, why)
				}
			}
		}
	}
	if v, why := eval.Eval(parsed(t, "9223372036854775807 + 1"), view(t), nil); !zero(v) || why != api.ErrOver {
		t.Errorf("%v, error %d", v, why)
	}
}

// Promise 12.6, and words of OpIn: of all entities, and sets of two, as entity.Above has it.
func TestIn(t *testing.T) {
	l := people(t)
	all := []api.Uid{{Type: "X", Id: "none"}, {Type: "Dir", Id: "none"}}
	for _, e := range l {
		all = append(all, e.Uid)
	}
	being := func(u api.Uid) api.Expr { return api.Expr{Op: api.OpEntity, T: u.Type, S: u.Id} }
	in := func(a, b api.Uid) bool {
		holds, why := eval.Holds(node(api.OpIn, being(a), being(b)), view(t), l)
		above, _ := entity.Above(l, a)
		if holds != slices.Contains(above, b) || why != api.OK {
			t.Errorf("%v in %v: %t, error %d", a, b, holds, why)
		}
		return holds
	}
	for _, a := range all {
		for _, b := range all {
			for _, c := range all {
				either, why := eval.Holds(node(api.OpIn, being(a), node(api.OpSet, being(b), being(c))), view(t), l)
				if either != (in(a, b) || in(a, c)) || why != api.OK {
					t.Errorf("%v in one of %v, %v: %t, error %d", a, b, c, either, why)
				}
				if in(a, b) && in(b, c) && !in(a, c) {
					t.Errorf("%v in %v, that in %v", a, b, c)
				}
			}
		}
	}
}

// Words: values that are too deep, or too great, to be right ones.
func TestValuesBeyondTheLimits(t *testing.T) {
	e, want := parsed(t, "context"), view(t).Context
	for range 14 {
		e, want = node(api.OpSet, e), set(want)
	}
	v, why := eval.Eval(e, view(t), nil)
	if !alike(v, want) || why != api.OK || value.Check(v) != api.ErrDepth {
		t.Errorf("too deep: %v, error %d", v, why)
	}
	q := view(t)
	q.Context = record("")
	for i := range 16 {
		q.Context.Names, q.Context.List = append(q.Context.Names, string(rune('a'+i))), append(q.Context.List, set(long(1), long(2), long(3), long(4), long(5), long(6)))
	}
	great := api.Expr{Op: api.OpRecord}
	whole := api.Value{Kind: api.KindRecord}
	for i := range 16 {
		name := string(rune('a' + i))
		whole.Names, whole.List = append(whole.Names, name), append(whole.List, record("x,y", q.Context, q.Context))
		great.Names = append(great.Names, name)
		great.Kids = append(great.Kids, api.Expr{Op: api.OpRecord, Names: []string{"y", "x"}, Kids: []api.Expr{parsed(t, "context"), parsed(t, "context")}})
	}
	v, why = eval.Eval(great, q, nil)
	if !alike(v, whole) || why != api.OK || value.Check(v) != api.ErrMany {
		t.Errorf("too great: error %d", why)
	}
	for s, want := range map[string]bool{`[[[[[[[[[[[1]]]]]]]]]]] == [[[[[[[[[[[1]]]]]]]]]]]`: true, `[[[[[[[[[[1]]]]]]]]]].contains([[[[[[[[[1]]]]]]]]])`: true, `{a: [[[[[[[[[[1]]]]]]]]]]}.a == [[[[[[[[[[2]]]]]]]]]]`: false, `[[[[[[[[[[1]]]]]]]]], [[[[[[[[[1]]]]]]]]]] == [[[[[[[[[[1]]]]]]]]]]`: true, `{a: [[[[[[[[[[1]]]]]]]]]]} has a`: true} {
		if b, why := eval.Holds(parsed(t, s), view(t), nil); b != want || why != api.OK {
			t.Errorf("%s: %t, error %d", s, b, why)
		}
	}
}

// Promise 12.2 of Holds: of all that is no bool.
func TestHoldsOfNoBools(t *testing.T) {
	for _, s := range []string{`1`, `0`, `""`, `"true"`, `principal`, `context`, `[]`, `[true]`, `{}`, `{a: true}`, `-1`, `context.s`, `if true then 1 else true`} {
		if b, why := eval.Holds(parsed(t, s), view(t), people(t)); b || why != api.ErrType {
			t.Errorf("%s holds: %t, error %d", s, b, why)
		}
	}
}

// spoil writes over all that a value's lists have, and over the room behind them.
func spoil(v api.Value) {
	for i := range v.Names[:cap(v.Names)] {
		v.Names[:cap(v.Names)][i] = "spoilt"
	}
	for i := range v.List[:cap(v.List)] {
		spoil(v.List[:cap(v.List)][i])
		v.List[:cap(v.List)][i] = text("spoilt")
	}
}

// Promise 12.3, and P3: what is handed in is neither changed nor kept, and no two lists share memory, within an answer or without.
func TestNewMemory(t *testing.T) {
	for _, s := range []string{`context`, `context.s`, `[context, context.s]`, `{x: context, y: context}`, `[principal.tags, principal.r]`, `{x: principal.tags, y: principal.tags}`, `if true then principal.r else 1`, `resource.owner.r`, `{x: {z: principal.r}, y: {z: principal.r}}`, `[{a: 1}, {b: [1, 2]}]`} {
		e, q, l := parsed(t, s), view(t), people(t)
		print, _ := expr.Print(e)
		context, attrs := again(q.Context), again(l[len(l)-2].Attrs)
		first, why := eval.Eval(e, q, l)
		second, reason := eval.Eval(e, q, l)
		want := again(second)
		if why != api.OK || reason != api.OK || !alike(first, second) {
			t.Fatalf("%s: errors %d, %d", s, why, reason)
		}
		if len(first.List) > 1 {
			spoil(first.List[0])
			if !slices.EqualFunc(first.List[1:], want.List[1:], alike) {
				t.Errorf("%s: two lists of an answer share memory", s)
			}
		}
		spoil(first)
		if now, _ := expr.Print(e); !alike(second, want) || !alike(q.Context, context) || !alike(l[len(l)-2].Attrs, attrs) || now != print {
			t.Errorf("%s: an answer shares memory, or what was handed in is changed", s)
		}
		spoil(q.Context)
		for _, one := range l {
			spoil(one.Attrs)
		}
		clear(e.Names)
		if !alike(second, want) {
			t.Errorf("%s: what was handed in is kept", s)
		}
	}
}

// P4.
func TestNoGoroutineIsLeft(t *testing.T) {
	before := runtime.NumGoroutine()
	r := rand.New(rand.NewSource(4))
	for range 300 {
		e := anyExpr(r, 4)
		eval.Eval(e, view(t), people(t))
		eval.Holds(e, api.Request{}, nil)
		eval.Like("ab", "*b")
	}
	if after := runtime.NumGoroutine(); after > before {
		t.Errorf("%d goroutines, before %d", after, before)
	}
}
