package types_test

import (
	"math/rand"
	"reflect"
	"runtime"
	"slices"
	"strings"
	"testing"

	"lictor/api"
	"lictor/expr"
	"lictor/policy"
	"lictor/schema"
	"lictor/types"
)

// typ is the type of a text: as schemas have it, and Never, and Any for an entity of any type.
func typ(s string) api.Type {
	t, rest := readType(strings.ReplaceAll(s, " ", ""))
	if rest != "" {
		panic("no type: " + s)
	}
	return t
}

func readType(s string) (api.Type, string) {
	if s, record := strings.CutPrefix(s, "{"); record {
		t := api.Type{Kind: api.TypeRecord}
		for !strings.HasPrefix(s, "}") {
			name, rest, _ := strings.Cut(strings.TrimPrefix(s, ","), ":")
			a := api.Attr{Name: name}
			a.Type, s = readType(rest)
			t.Attrs = append(t.Attrs, a)
		}
		return t, s[1:]
	}
	at := strings.IndexAny(s+",", "<>,{}")
	word, rest := s[:at], s[at:]
	plain := map[string]api.TypeKind{"Never": api.TypeNever, "Bool": api.TypeBool, "Long": api.TypeLong, "String": api.TypeString, "Any": api.TypeEntity}
	if kind, there := plain[word]; there {
		return api.Type{Kind: kind}, rest
	}
	if word == "Set" {
		of, rest := readType(rest[1:])
		return api.Type{Kind: api.TypeSet, Of: []api.Type{of}}, rest[1:]
	}
	return api.Type{Kind: api.TypeEntity, Name: word}, rest
}

// show is the text of a type that has no field that its kind has not, in the words of typ.
func show(t api.Type) string {
	switch t.Kind {
	case api.TypeEntity:
		if t.Name == "" {
			return "Any"
		}
		return t.Name
	case api.TypeSet:
		return "Set<" + show(t.Of[0]) + ">"
	case api.TypeRecord:
		var l []string
		for _, a := range t.Attrs {
			l = append(l, a.Name+": "+show(a.Type))
		}
		return "{" + strings.Join(l, ", ") + "}"
	}
	return []string{"Never", "Bool", "Long", "String"}[t.Kind]
}

// same tells whether two types are the same, each field of theirs; nil and empty lists are.
func same(a, b api.Type) bool {
	attrs := func(a, b api.Attr) bool { return a.Name == b.Name && same(a.Type, b.Type) }
	return a.Kind == b.Kind && a.Name == b.Name && slices.EqualFunc(a.Of, b.Of, same) && slices.EqualFunc(a.Attrs, b.Attrs, attrs)
}

// again is the same type in memory of its own.
func again(t api.Type) api.Type {
	t.Of, t.Attrs = slices.Clone(t.Of), slices.Clone(t.Attrs)
	for i := range t.Of {
		t.Of[i] = again(t.Of[i])
	}
	for i := range t.Attrs {
		t.Attrs[i].Type = again(t.Attrs[i].Type)
	}
	return t
}

// zero tells whether an answer is the zero one.
func zero(v any) bool { return reflect.ValueOf(v).IsZero() }

// oneOf is one of a list by chance.
func oneOf[T any](r *rand.Rand, l []T) T { return l[r.Intn(len(l))] }

// node is an op of Kids alone.
func node(op api.Op, kids ...api.Expr) api.Expr { return api.Expr{Op: op, Kids: kids} }

// parsed is the expression of a text.
func parsed(t *testing.T, s string) api.Expr {
	t.Helper()
	e, why, place := expr.Parse(s)
	if why != api.OK {
		t.Fatalf("%q: error %d at %d", s, why, place)
	}
	return e
}

// house is the schema of most tests.
func house(t *testing.T) api.Schema {
	t.Helper()
	x, why, place := schema.Parse(`entity User in [Group] {age: Long, boss: User, tags: Set<String>, r: {n: Long, "x y": Bool}, last: Action, friends: Set<User>};
		entity Group in [Group] {};
		entity Doc in [Dir] {owner: User, public: Bool, name: String, age: String};
		entity Dir {};
		entity A::B {n: Long};
		action "view" appliesTo {principal: [User], resource: [Doc], context: {}};
		action "" appliesTo {principal: [], resource: [], context: {ip: String}};`)
	if why != api.OK {
		t.Fatalf("the schema: error %d at %d", why, place)
	}
	return x
}

// visit is of which types a request's parts are in most tests.
func visit() api.Env {
	return api.Env{Principal: "User", Resource: "Doc", Context: typ("{act: Action, b: Bool, dir: Nope, e: {}, g: Group, n: Long, never: Never, r: {a: Long, q: {z: Bool}}, sa: Set<Action>, se: Set<Never>, sl: Set<Long>, sr: Set<{a: Long}>, ss: Set<Set<User>>, su: Set<User>, t: String, u: User}").Attrs}
}

// The section Errors, as far as it speaks of types; and the kinds of types.
func TestErrors(t *testing.T) {
	if api.OK != 0 || api.ErrMany != 2 || api.ErrDepth != 4 || api.ErrSyntax != 5 || api.ErrType != 7 || api.ErrMissing != 8 || api.ErrUnknown != 9 || api.ErrTwice != 10 {
		t.Error("an error's number is another one")
	}
}

// Promise 13.1 of Join, and words: what is joined, and what has no join.
func TestJoin(t *testing.T) {
	for _, x := range []struct{ a, b, want string }{
		{"Never", "Never", "Never"}, {"Never", "Bool", "Bool"}, {"Never", "Long", "Long"}, {"Never", "String", "String"}, {"Never", "User", "User"}, {"Never", "Any", "Any"}, {"Never", "Set<Long>", "Set<Long>"}, {"Never", "Set<Never>", "Set<Never>"}, {"Never", "{a: Long, b: {}}", "{a: Long, b: {}}"}, {"Never", "{}", "{}"},
		{"Bool", "Bool", "Bool"}, {"Long", "Long", "Long"}, {"String", "String", "String"}, {"Bool", "Long", ""}, {"Bool", "String", ""}, {"Long", "String", ""},
		{"User", "User", "User"}, {"User", "Doc", "Any"}, {"User", "Any", "Any"}, {"Any", "Any", "Any"}, {"A::B", "A::B", "A::B"}, {"A::B", "A", "Any"}, {"Action", "User", "Any"}, {"User", "Bool", ""}, {"User", "Long", ""}, {"User", "String", ""}, {"Any", "String", ""}, {"User", "user", "Any"},
		{"Set<Long>", "Set<Long>", "Set<Long>"}, {"Set<Never>", "Set<Long>", "Set<Long>"}, {"Set<Never>", "Set<Never>", "Set<Never>"}, {"Set<User>", "Set<Doc>", "Set<Any>"}, {"Set<User>", "Set<User>", "Set<User>"}, {"Set<Long>", "Set<String>", ""}, {"Set<Set<Never>>", "Set<Set<{}>>", "Set<Set<{}>>"}, {"Set<Set<Long>>", "Set<Long>", ""}, {"Set<Long>", "Long", ""}, {"Set<User>", "User", ""}, {"Set<Never>", "Bool", ""}, {"Set<{a: Long}>", "{a: Long}", ""}, {"Set<{a: User}>", "Set<{a: Doc}>", "Set<{a: Any}>"},
		{"{}", "{}", "{}"}, {"{a: Long}", "{a: Long}", "{a: Long}"}, {"{a: Long}", "{b: Long}", ""}, {"{a: Long}", "{}", ""}, {"{}", "{a: Long}", ""}, {"{a: Long, b: Long}", "{a: Long}", ""}, {"{a: Long, b: Long}", "{b: Long}", ""}, {"{a: Long}", "{a: Bool}", ""}, {"{a: Long, b: Long}", "{a: Long, b: Bool}", ""}, {"{a: Long, b: Long}", "{a: Bool, b: Long}", ""}, {"{a: User, b: Set<Never>}", "{a: Doc, b: Set<Long>}", "{a: Any, b: Set<Long>}"}, {"{a: Never}", "{a: {}}", "{a: {}}"}, {"{a: {b: User}}", "{a: {b: Doc}}", "{a: {b: Any}}"}, {"{a: {b: Long}}", "{a: {c: Long}}", ""}, {"{a: Long}", "Long", ""}, {"{}", "User", ""}, {"{}", "Bool", ""}, {"{a: Long}", "{A: Long}", ""},
	} {
		for _, turned := range []bool{false, true} {
			a, b := typ(x.a), typ(x.b)
			if turned {
				a, b = b, a
			}
			got, why := types.Join(a, b)
			switch {
			case x.want == "" && (why != api.ErrType || !zero(got)):
				t.Errorf("%s and %s, turned %t: %v, error %d", x.a, x.b, turned, got, why)
			case x.want != "" && (why != api.OK || !same(got, typ(x.want))):
				t.Errorf("%s and %s, turned %t: %v, error %d, not %s", x.a, x.b, turned, got, why, x.want)
			}
		}
	}
}

// odd is a type with all fields, whatever its kind has.
func odd(kind api.TypeKind) api.Type {
	return api.Type{Kind: kind, Name: "N", Of: []api.Type{typ("Long"), typ("Bool")}, Attrs: typ("{a: Long}").Attrs}
}

// Words: hand-made types that are not right.
func TestJoinOfHandMade(t *testing.T) {
	bare, none := api.Type{Kind: api.TypeSet}, api.Type{Kind: api.TypeCount}
	two := api.Type{Kind: api.TypeSet, Of: []api.Type{typ("User"), typ("Long")}}
	record := func(of api.Type) api.Type {
		return api.Type{Kind: api.TypeRecord, Attrs: []api.Attr{{Name: "a", Type: of}}}
	}
	set := func(of api.Type) api.Type { return api.Type{Kind: api.TypeSet, Of: []api.Type{of}} }
	named := func(names ...string) api.Type {
		x := api.Type{Kind: api.TypeRecord}
		for _, name := range names {
			x.Attrs = append(x.Attrs, api.Attr{Name: name, Type: typ("Long")})
		}
		return x
	}
	for i, x := range []struct {
		a, b api.Type
		want string
	}{
		{odd(api.TypeNever), odd(api.TypeNever), "Never"}, {odd(api.TypeNever), typ("Bool"), "Bool"},
		{odd(api.TypeBool), odd(api.TypeBool), "Bool"}, {odd(api.TypeBool), typ("Never"), "Bool"}, {odd(api.TypeLong), typ("Long"), "Long"}, {odd(api.TypeLong), typ("Never"), "Long"}, {odd(api.TypeString), odd(api.TypeString), "String"}, {odd(api.TypeString), typ("Never"), "String"},
		{odd(api.TypeEntity), typ("N"), "N"}, {odd(api.TypeEntity), typ("M"), "Any"}, {odd(api.TypeEntity), typ("Never"), "N"}, {odd(api.TypeEntity), odd(api.TypeEntity), "N"}, {api.Type{Kind: api.TypeEntity, Name: "in"}, api.Type{Kind: api.TypeEntity, Name: "in"}, "in"},
		{odd(api.TypeSet), odd(api.TypeSet), "Set<Long>"}, {odd(api.TypeSet), typ("Never"), "Set<Long>"}, {odd(api.TypeSet), typ("Set<Long>"), "Set<Long>"}, {odd(api.TypeSet), typ("Set<Bool>"), ""}, {two, typ("Set<Doc>"), "Set<Any>"}, {two, typ("Set<Long>"), ""}, {two, two, "Set<User>"}, {two, typ("Never"), "Set<User>"},
		{odd(api.TypeRecord), typ("{a: Long}"), "{a: Long}"}, {odd(api.TypeRecord), typ("Never"), "{a: Long}"}, {odd(api.TypeRecord), odd(api.TypeRecord), "{a: Long}"}, {odd(api.TypeRecord), typ("{}"), ""},
		{record(odd(api.TypeLong)), typ("{a: Long}"), "{a: Long}"}, {record(odd(api.TypeLong)), typ("Never"), "{a: Long}"}, {record(odd(api.TypeNever)), record(odd(api.TypeBool)), "{a: Bool}"}, {set(odd(api.TypeBool)), typ("Never"), "Set<Bool>"}, {set(odd(api.TypeSet)), set(odd(api.TypeNever)), "Set<Set<Long>>"}, {record(two), typ("Never"), "{a: Set<User>}"},
		{bare, typ("Set<Long>"), "Set<Long>"}, {bare, bare, "Set<Never>"}, {bare, typ("Set<Never>"), "Set<Never>"}, {bare, typ("Set<Set<User>>"), "Set<Set<User>>"}, {bare, typ("Never"), "Set<Never>"}, {bare, typ("Long"), ""}, {bare, typ("{}"), ""}, {set(bare), typ("Set<Set<Bool>>"), "Set<Set<Bool>>"}, {set(bare), typ("Set<Bool>"), ""}, {record(bare), typ("{a: Set<Long>}"), "{a: Set<Long>}"}, {record(bare), record(bare), "{a: Set<Never>}"},
		{none, none, ""}, {none, typ("Bool"), ""}, {none, typ("Any"), ""}, {none, typ("{}"), ""}, {none, bare, ""}, {set(none), set(none), ""}, {record(none), record(none), ""}, {odd(api.TypeCount + 1), odd(api.TypeCount + 1), ""},
		{named("b", "a"), named("b", "a"), "{b: Long, a: Long}"}, {named("a", "a"), named("a", "a"), "{a: Long, a: Long}"}, {named("a", "a"), named("a"), ""}, {named("a", "b"), named("a", "c"), ""}, {named("b", "a"), typ("Never"), "{b: Long, a: Long}"}, {named(""), named(""), "{: Long}"},
	} {
		for _, turned := range []bool{false, true} {
			a, b := x.a, x.b
			if turned {
				a, b = b, a
			}
			got, why := types.Join(a, b)
			if x.want == "" && (why != api.ErrType || !zero(got)) || x.want != "" && (why != api.OK || show(got) != x.want || !same(got, typ(x.want))) {
				t.Errorf("%d, turned %t: %v, error %d, not %s", i, turned, got, why, x.want)
			}
		}
	}
}

func boolean(b bool) api.Value { return api.Value{Kind: api.KindBool, B: b} }

func long(n int64) api.Value { return api.Value{Kind: api.KindLong, N: n} }

func text(s string) api.Value { return api.Value{Kind: api.KindString, S: s} }

func being(kind, id string) api.Value { return api.Value{Kind: api.KindEntity, T: kind, S: id} }

// set is one of parts as they stand.
func set(parts ...api.Value) api.Value { return api.Value{Kind: api.KindSet, List: parts} }

// record is one of names with commas between, and parts, as they stand.
func record(names string, parts ...api.Value) api.Value {
	v := api.Value{Kind: api.KindRecord, List: parts}
	if names != "" {
		v.Names = strings.Split(names, ",")
	}
	return v
}

// Promise 13.1 of Fits, and words: which values fit which types.
func TestFits(t *testing.T) {
	all := []string{"Never", "Bool", "Long", "String", "User", "Doc", "Any", "Set<Never>", "Set<Long>", "Set<User>", "Set<Any>", "Set<Set<Long>>", "{}", "{a: Long}", "{a: Long, b: Set<User>}", "{a: Never}", "{b: Long}"}
	for _, x := range []struct {
		v    api.Value
		fits string
	}{
		{boolean(false), "Bool"}, {boolean(true), "Bool"}, {long(0), "Long"}, {long(-1), "Long"}, {text(""), "String"}, {text("User"), "String"}, {being("User", "a"), "User Any"}, {being("Doc", ""), "Doc Any"}, {being("Group", "User"), "Any"}, {being("Action", "Doc"), "Any"}, {being("user", "a"), "Any"},
		{set(), "Set<Never> Set<Long> Set<User> Set<Any> Set<Set<Long>>"}, {set(long(1)), "Set<Long>"}, {set(long(1), long(2)), "Set<Long>"}, {set(long(1), text("a")), ""}, {set(boolean(true), long(1)), ""}, {set(being("User", "a")), "Set<User> Set<Any>"}, {set(being("Doc", "a"), being("User", "a")), "Set<Any>"}, {set(being("User", "a"), set()), ""}, {set(set()), "Set<Set<Long>>"}, {set(set(), set(long(1))), "Set<Set<Long>>"}, {set(set(text("a"))), ""}, {set(long(1), set(long(1))), ""},
		{record(""), "{}"}, {record("a", long(1)), "{a: Long}"}, {record("a", text("")), ""}, {record("b", long(1)), "{b: Long}"}, {record("a,b", long(1), set()), "{a: Long, b: Set<User>}"}, {record("a,b", long(1), set(being("User", "a"))), "{a: Long, b: Set<User>}"}, {record("a,b", long(1), set(being("Doc", "a"))), ""}, {record("a,b", set(), long(1)), ""}, {record("a,b", boolean(true), set()), ""}, {record("a,b,c", long(1), set(), long(1)), ""}, {record("A", long(1)), ""},
	} {
		for _, s := range all {
			// The texts of types with commas and blanks stand alone in fits.
			want := x.fits == s || slices.Contains(strings.Fields(x.fits), s)
			if types.Fits(x.v, typ(s)) != want {
				t.Errorf("%v fits %s: %t", x.v, s, !want)
			}
		}
	}
}

// Words: hand-made values and types that are not right.
func TestFitsOfHandMade(t *testing.T) {
	bare, none := api.Type{Kind: api.TypeSet}, api.Type{Kind: api.TypeCount}
	two := api.Type{Kind: api.TypeSet, Of: []api.Type{typ("Long"), typ("Bool")}}
	twice := api.Type{Kind: api.TypeRecord, Attrs: []api.Attr{{Name: "b", Type: typ("Long")}, {Name: "a", Type: typ("Bool")}}}
	odd := func(kind api.Kind) api.Value {
		return api.Value{Kind: kind, B: true, N: 1, S: "s", T: "N", Names: []string{"a"}, List: []api.Value{long(1)}}
	}
	for i, x := range []struct {
		v    api.Value
		t    api.Type
		want bool
	}{
		{set(), bare, true}, {set(long(1)), bare, false}, {set(set()), bare, false}, {record(""), bare, false}, {long(1), bare, false}, {set(set()), api.Type{Kind: api.TypeSet, Of: []api.Type{bare}}, true}, {set(set(long(1))), api.Type{Kind: api.TypeSet, Of: []api.Type{bare}}, false},
		{set(long(1)), two, true}, {set(boolean(true)), two, false}, {set(boolean(true), long(1)), two, false}, {set(), two, true},
		{record("b,a", long(1), boolean(true)), twice, true}, {record("a,b", boolean(true), long(1)), twice, false}, {record("a,b", long(1), boolean(true)), twice, false}, {record("b,a", boolean(true), long(1)), twice, false},
		{record("a,b", long(1)), typ("{a: Long, b: Bool}"), true}, {record("a,b"), typ("{a: Long, b: Bool}"), true}, {record("a,b", boolean(true)), typ("{a: Long, b: Bool}"), false}, {record("a", long(1), boolean(true)), typ("{a: Long}"), true}, {record("", long(1)), typ("{}"), true}, {record("", long(1)), typ("{a: Long}"), false}, {record("a", long(1), boolean(true)), typ("{a: Long, b: Bool}"), false},
		{odd(api.KindBool), odd2("Bool"), true}, {odd(api.KindLong), odd2("Long"), true}, {odd(api.KindString), odd2("String"), true}, {odd(api.KindEntity), typ("N"), true}, {odd(api.KindEntity), typ("M"), false}, {odd(api.KindEntity), typ("Any"), true}, {odd(api.KindSet), typ("Set<Long>"), true}, {odd(api.KindSet), typ("Set<Bool>"), false}, {odd(api.KindRecord), typ("{a: Long}"), true}, {odd(api.KindRecord), typ("{a: Bool}"), false}, {odd(api.KindLong), odd2("Bool"), false}, {odd(api.KindBool), odd2("Never"), false}, {odd(api.KindEntity), odd2("Never"), false},
		{api.Value{Kind: api.KindEntity}, typ("Any"), true}, {api.Value{Kind: api.KindEntity}, typ("N"), false}, {api.Value{Kind: api.KindEntity, T: "in"}, api.Type{Kind: api.TypeEntity, Name: "in"}, true},
		{long(1), none, false}, {boolean(false), none, false}, {record(""), none, false}, {set(), none, false}, {odd(api.KindCount), none, false}, {odd(api.KindCount), typ("Never"), false}, {odd(api.KindCount), typ("Any"), false}, {odd(api.KindCount + 1), typ("{a: Long}"), false}, {api.Value{}, typ("Bool"), true}, {api.Value{}, api.Type{}, false},
	} {
		if types.Fits(x.v, x.t) != x.want {
			t.Errorf("%d: %v fits %v: %t", i, x.v, x.t, !x.want)
		}
	}
}

// odd2 is a type of a text with fields that its kind has not.
func odd2(s string) api.Type {
	return odd(typ(s).Kind)
}

// Promise 13.1 of Uids: all entities, as they stand from the left.
func TestUids(t *testing.T) {
	for s, want := range map[string]string{
		`1`: "", `principal`: "", `"A"`: "", `principal is User`: "", `A::"x"`: "A.x", `A::B::""`: "A::B.", `A::"x" == A::"x"`: "A.x A.x", `B::"b" in [A::"z", A::"a", C::"c"]`: "B.b A.z A.a C.c", `{b: A::"1", a: A::"2"}`: "A.1 A.2", `if A::"1" == A::"2" then [A::"3"] else A::"4".b`: "A.1 A.2 A.3 A.4", `(A::"1" has a) && (A::"2" is A) && !(A::"3" like "A") || -A::"4" < 1`: "A.1 A.2 A.3 A.4", `[A::"2"].contains(A::"1") && [].containsAll([A::"3"]) && [A::"4"].containsAny([Action::"5"])`: "A.2 A.1 A.3 A.4 Action.5", `[[[A::"3"], A::"2"], A::"1"]`: "A.3 A.2 A.1", `Nope::"a" + in_::"b" - A::"c" * A::"d"`: "Nope.a in_.b A.c A.d",
	} {
		var got []string
		for _, u := range types.Uids(parsed(t, s)) {
			got = append(got, u.Type+"."+u.Id)
		}
		if strings.Join(got, " ") != want {
			t.Errorf("%s: %q, not %q", s, got, want)
		}
	}
	p, _, _ := policy.Parse(`permit(principal == A::"1", action in [A::"3", A::"2"], resource in A::"4") when { A::"6" == A::"5" };`)
	body, _ := policy.Body(p)
	want := []api.Uid{{Type: "A", Id: "1"}, {Type: "A", Id: "3"}, {Type: "A", Id: "2"}, {Type: "A", Id: "4"}, {Type: "A", Id: "6"}, {Type: "A", Id: "5"}}
	if got := types.Uids(body); !slices.Equal(got, want) {
		t.Errorf("of a body: %v", got)
	}
	one := api.Expr{Op: api.OpEntity, T: "in", S: "\xff"}
	if got := types.Uids(node(api.OpNone, node(api.OpBool, one), one, node(api.OpCount, one))); len(got) != 3 || got[0] != (api.Uid{Type: "in", Id: "\xff"}) {
		t.Errorf("of a hand-made expression: %v", got)
	}
	if got := types.Uids(api.Expr{}); len(got) != 0 {
		t.Errorf("of nothing: %v", got)
	}
}

// Promise 13.2, and words: the types of all ops.
func TestInfer(t *testing.T) {
	for s, want := range map[string]string{
		`true`: "Bool", `0`: "Long", `""`: "String", `User::"none"`: "User", `A::B::"x"`: "A::B", `Dir::""`: "Dir", `Action::"view"`: "Action", `Action::""`: "Action",
		`principal`: "User", `resource`: "Doc", `action`: "Action", `context`: show(typ("{act: Action, b: Bool, dir: Nope, e: {}, g: Group, n: Long, never: Never, r: {a: Long, q: {z: Bool}}, sa: Set<Action>, se: Set<Never>, sl: Set<Long>, sr: Set<{a: Long}>, ss: Set<Set<User>>, su: Set<User>, t: String, u: User}")),
		`[]`: "Set<Never>", `[1]`: "Set<Long>", `[1, 2, 1]`: "Set<Long>", `[[], [1]]`: "Set<Set<Long>>", `[[], []]`: "Set<Set<Never>>", `[principal, resource]`: "Set<Any>", `[principal, principal]`: "Set<User>", `[principal, resource, principal]`: "Set<Any>", `[User::"a", Doc::"d"]`: "Set<Any>", `[{a: []}, {a: [1]}, {a: []}]`: "Set<{a: Set<Long>}>", `[context.never, 1]`: "Set<Long>", `[context.never]`: "Set<Never>", `[[principal], [], [resource]]`: "Set<Set<Any>>",
		`{}`: "{}", `{b: 1, a: true}`: "{a: Bool, b: Long}", `{z: {}, y: {c: "", b: []}, x: principal}`: "{x: User, y: {b: Set<Never>, c: String}, z: {}}", `{B: 1, a: 2, A: 3}`: "{A: Long, B: Long, a: Long}",
		`context.n`: "Long", `context.r`: "{a: Long, q: {z: Bool}}", `context.r.q.z`: "Bool", `context["sl"]`: "Set<Long>", `{a: 1, b: "x"}.b`: "String", `principal.age`: "Long", `resource.age`: "String", `principal.boss.boss`: "User", `principal.r["x y"]`: "Bool", `principal.tags`: "Set<String>", `principal.last`: "Action", `principal.friends`: "Set<User>", `resource.owner.age`: "Long", `User::"none".age`: "Long", `A::B::"x".n`: "Long", `context.never`: "Never", `(if context.b then principal else context.u).age`: "Long",
		`context has n`: "Bool", `context has none`: "Bool", `{} has a`: "Bool", `principal has age`: "Bool", `principal has none`: "Bool", `action has a`: "Bool", `context.dir has a`: "Bool", `(if true then principal else resource) has age`: "Bool",
		`principal is User`: "Bool", `principal is Nope`: "Bool", `action is Action`: "Bool", `context.dir is Nope`: "Bool", `(if true then principal else resource) is Doc`: "Bool",
		`context.t like "*"`: "Bool", `!context.b`: "Bool", `!!true`: "Bool", `-1`: "Long", `- -context.n`: "Long",
		`if true then 1 else 2`: "Long", `if context.b then [] else [1]`: "Set<Long>", `if false then [1] else []`: "Set<Long>", `if true then principal else resource`: "Any", `if true then principal else principal.boss`: "User", `if true then context.never else 1`: "Long", `if true then {a: principal} else {a: action}`: "{a: Any}", `if true then context.never else context.never`: "Never",
		`true && false`: "Bool", `context.b || resource.public`: "Bool", `1 == "1"`: "Bool", `[] != {}`: "Bool", `context == principal`: "Bool", `context.never == 1`: "Bool", `1 < 2`: "Bool", `1 <= 2`: "Bool", `context.n > principal.age`: "Bool", `1 >= 2`: "Bool",
		`principal in resource`: "Bool", `principal in Group::"g"`: "Bool", `principal in []`: "Bool", `principal in [principal, resource]`: "Bool", `principal in context.su`: "Bool", `principal in context.se`: "Bool", `action in context.sa`: "Bool", `action in [Action::"view", Action::""]`: "Bool", `(if true then principal else resource) in (if true then principal else resource)`: "Bool", `context.dir in context.dir`: "Bool",
		`1 + 2`: "Long", `1 - context.n`: "Long", `principal.age * 2`: "Long",
		`[].contains(1)`: "Bool", `[1].contains("a")`: "Bool", `context.ss.contains(context.never)`: "Bool", `[1].containsAll([])`: "Bool", `[].containsAll(["a"])`: "Bool", `context.sl.containsAny(context.su)`: "Bool", `[].containsAny([])`: "Bool",
		`principal == User::"a" && action in [Action::"view"] && resource is Doc && !(context.n + 1 < 2)`: "Bool",
	} {
		got, why := types.Infer(parsed(t, s), house(t), visit())
		if why != api.OK || !same(got, typ(want)) {
			t.Errorf("%s: %v, error %d, not %s", s, got, why, want)
		}
	}
	got, why := types.Infer(parsed(t, `principal.r`), house(t), visit())
	if why != api.OK || show(got) != "{n: Long, x y: Bool}" {
		t.Errorf("a name with a blank: %v, error %d", got, why)
	}
}

// Promise 13.2, and words: what has no type.
func TestInferOfErrors(t *testing.T) {
	for s, want := range map[string]api.Errno{
		`Nope::"a"`: api.ErrUnknown, `A::"a"`: api.ErrUnknown, `B::"a"`: api.ErrUnknown, `user::"a"`: api.ErrUnknown, `Action::"none"`: api.ErrUnknown, `Action::"View"`: api.ErrUnknown, `view::"Action"`: api.ErrUnknown, `Nope::"a" == principal`: api.ErrUnknown, `[Nope::"a"]`: api.ErrUnknown, `Nope::"a".b`: api.ErrUnknown, `Bool::"a"`: api.ErrUnknown, `Action::X::"view"`: api.ErrUnknown,
		`[1, "a"]`: api.ErrType, `[1, 2, true]`: api.ErrType, `[[1], ["a"]]`: api.ErrType, `[{a: 1}, {b: 1}]`: api.ErrType, `[principal, "a"]`: api.ErrType, `[context, principal]`: api.ErrType, `[[], 1]`: api.ErrType,
		`context.none`: api.ErrMissing, `{}.a`: api.ErrMissing, `principal.none`: api.ErrMissing, `principal.boss.none`: api.ErrMissing, `resource.boss`: api.ErrMissing, `action.a`: api.ErrMissing, `Action::"view".id`: api.ErrMissing, `principal.last.a`: api.ErrMissing, `context.act.a`: api.ErrMissing, `context.dir.a`: api.ErrMissing, `context.e.a`: api.ErrMissing, `Dir::"d".a`: api.ErrMissing, `principal.Age`: api.ErrMissing, `context.ip`: api.ErrMissing,
		`1.a`: api.ErrType, `"a".a`: api.ErrType, `true.a`: api.ErrType, `[].a`: api.ErrType, `context.sr.a`: api.ErrType, `context.su.age`: api.ErrType, `context.never.a`: api.ErrType, `(if true then principal else resource).age`: api.ErrType, `1 has a`: api.ErrType, `"a" has a`: api.ErrType, `[] has a`: api.ErrType, `true has a`: api.ErrType, `context.never has a`: api.ErrType, `context.su has age`: api.ErrType,
		`1 is User`: api.ErrType, `context is User`: api.ErrType, `context.su is User`: api.ErrType, `"User" is User`: api.ErrType, `context.never is User`: api.ErrType, `1 like "1"`: api.ErrType, `principal like "*"`: api.ErrType, `["a"] like "a"`: api.ErrType, `context.never like "*"`: api.ErrType,
		`!1`: api.ErrType, `!"a"`: api.ErrType, `!principal`: api.ErrType, `![]`: api.ErrType, `!context.never`: api.ErrType, `-true`: api.ErrType, `-"1"`: api.ErrType, `-context`: api.ErrType, `-context.never`: api.ErrType,
		`if 1 then 2 else 3`: api.ErrType, `if context.never then 2 else 3`: api.ErrType, `if true then 1 else "a"`: api.ErrType, `if true then 1 else true`: api.ErrType, `if true then {a: 1} else {}`: api.ErrType, `if "a" then 1 else true`: api.ErrType, `if principal then principal else principal`: api.ErrType,
		`1 && true`: api.ErrType, `true && 1`: api.ErrType, `"a" || true`: api.ErrType, `false || principal`: api.ErrType, `true || 1`: api.ErrType, `false && 1`: api.ErrType, `context.never && true`: api.ErrType, `true || context.never`: api.ErrType, `false && context.none`: api.ErrMissing, `true || Nope::"a" == action`: api.ErrUnknown, `if true then 1 else context.none`: api.ErrMissing, `if false then Nope::"a" else principal`: api.ErrUnknown,
		`1 < true`: api.ErrType, `"a" < "b"`: api.ErrType, `true <= true`: api.ErrType, `1 > principal`: api.ErrType, `[] >= 1`: api.ErrType, `context.never < 1`: api.ErrType, `principal.age < resource.age`: api.ErrType,
		`1 in principal`: api.ErrType, `principal in 1`: api.ErrType, `principal in "a"`: api.ErrType, `principal in context`: api.ErrType, `principal in [1]`: api.ErrType, `principal in context.ss`: api.ErrType, `principal in context.sr`: api.ErrType, `principal in context.never`: api.ErrType, `context.never in principal`: api.ErrType, `[principal] in principal`: api.ErrType, `[] in []`: api.ErrType, `context in principal`: api.ErrType, `principal in [[]]`: api.ErrType,
		`1 + true`: api.ErrType, `"a" + "b"`: api.ErrType, `1 - "a"`: api.ErrType, `[] * 1`: api.ErrType, `context.never + 1`: api.ErrType, `1 * principal.tags`: api.ErrType,
		`1.contains(1)`: api.ErrType, `"a".contains("a")`: api.ErrType, `context.contains(1)`: api.ErrType, `principal.contains(1)`: api.ErrType, `context.never.contains(1)`: api.ErrType, `[1].containsAll(1)`: api.ErrType, `1.containsAll([1])`: api.ErrType, `{}.containsAny([])`: api.ErrType, `[].containsAny(context)`: api.ErrType, `[].containsAll(context.never)`: api.ErrType,
	} {
		if got, why := types.Infer(parsed(t, s), house(t), visit()); !zero(got) || why != want {
			t.Errorf("%s: %v, error %d, not %d", s, got, why, want)
		}
	}
}

// Words: the first error of the Kids, from the left, all of them, ahead of that of the op itself.
func TestFirstError(t *testing.T) {
	missing, unknown, wrong := `context.none`, `Nope::"a"`, `(1 + true)`
	for s, want := range map[string]api.Errno{
		missing + ` == ` + unknown: api.ErrMissing, unknown + ` == ` + missing: api.ErrUnknown, wrong + ` == ` + missing: api.ErrType, missing + ` == ` + wrong: api.ErrMissing, `[` + missing + `, ` + unknown + `, ` + wrong + `]`: api.ErrMissing, `[1, ` + unknown + `, ` + missing + `]`: api.ErrUnknown, `[` + wrong + `, ` + missing + `]`: api.ErrType, `{b: ` + missing + `, a: ` + unknown + `}`: api.ErrMissing, `{b: 1, a: ` + unknown + `, "0": ` + missing + `}`: api.ErrUnknown,
		`true + ` + missing: api.ErrMissing, `1 && ` + unknown: api.ErrUnknown, `1 || ` + missing: api.ErrMissing, `"a" < ` + unknown: api.ErrUnknown, `1 in ` + missing: api.ErrMissing, `1 in [` + unknown + `]`: api.ErrUnknown, `1.contains(` + missing + `)`: api.ErrMissing, `1.containsAll(` + unknown + `)`: api.ErrUnknown, `{}.containsAny(` + missing + `)`: api.ErrMissing, `if 1 then ` + missing + ` else ` + unknown: api.ErrMissing, `if 1 then 2 else ` + unknown: api.ErrUnknown, `if ` + unknown + ` then ` + missing + ` else 1`: api.ErrUnknown, `if ` + wrong + ` then ` + missing + ` else 1`: api.ErrType, `if true then "a" else ` + missing: api.ErrMissing,
		`-` + missing: api.ErrMissing, `!` + unknown: api.ErrUnknown, missing + ` has a`: api.ErrMissing, unknown + `.a`: api.ErrUnknown, missing + ` is A`: api.ErrMissing, missing + ` like "a"`: api.ErrMissing, missing + ` + 1 < ` + unknown: api.ErrMissing, `[1, "a", ` + missing + `]`: api.ErrMissing,
	} {
		if got, why := types.Infer(parsed(t, s), house(t), visit()); !zero(got) || why != want {
			t.Errorf("%s: %v, error %d, not %d", s, got, why, want)
		}
	}
}

// deepType is a type that is nested so deep: sets of sets of Long.
func deepType(deep int) api.Type {
	t := typ("Long")
	for range deep - 1 {
		t = api.Type{Kind: api.TypeSet, Of: []api.Type{t}}
	}
	return t
}

// Promise 13.2: the expression's error goes ahead of the schema's, that one ahead of the types that are none, and they ahead of the Context's.
func TestErrorsInOrder(t *testing.T) {
	x, v := house(t), visit()
	good, bad, none := parsed(t, "1"), node(api.OpNot), parsed(t, "context.none")
	deep := node(api.OpBool)
	for range 16 {
		deep = node(api.OpNot, deep)
	}
	many := parsed(t, "[1, 2, 3, 4, 5, 6, 7, 8, 9, 10, 11]")
	many = node(api.OpSet, many, many, many, many, many, many, many, many, many, many, parsed(t, "[1, 2, 3, 4, 5, 6, 7]"))
	twice, wrong := house(t), house(t)
	twice.Types[1].Name = "User"
	wrong.Types[1].Name = "Bool"
	env := func(principal, resource string, context ...api.Attr) api.Env {
		return api.Env{Principal: principal, Resource: resource, Context: context}
	}
	tooDeep, falling := api.Attr{Name: "d", Type: deepType(8)}, typ("{b: Long, a: Long}").Attrs
	wide := slices.Repeat([]api.Attr{{Type: typ("Long")}}, 17)
	for i := range wide {
		wide[i].Name = string(rune('a' + i))
	}
	for _, c := range []struct {
		name string
		e    api.Expr
		x    api.Schema
		v    api.Env
		want api.Errno
	}{
		{"all", bad, wrong, env("Nope", "Nope", falling...), api.ErrSyntax}, {"all, too deep", deep, twice, env("Nope", "Nope", falling...), api.ErrDepth}, {"all, too many", many, wrong, env("Nope", "Nope", falling...), api.ErrMany}, {"as deep as may be", deep.Kids[0], x, v, api.OK}, {"nothing", api.Expr{}, x, v, api.ErrSyntax},
		{"the schema's names", good, twice, env("Nope", "Nope", falling...), api.ErrTwice}, {"the schema", none, wrong, env("Nope", "Nope", falling...), api.ErrSyntax},
		{"no principal", good, x, env("Nope", "User", falling...), api.ErrUnknown}, {"no resource", good, x, env("User", "Nope", falling...), api.ErrUnknown}, {"no resource, of no matter", none, x, env("User", "", v.Context...), api.ErrUnknown}, {"an action as principal", good, x, env("Action", "User"), api.ErrUnknown}, {"an action as resource", good, x, env("User", "Action"), api.ErrUnknown}, {"a principal without a name", good, x, env("", "User"), api.ErrUnknown}, {"no Env", good, x, api.Env{}, api.ErrUnknown}, {"no schema", good, api.Schema{}, v, api.ErrUnknown}, {"another case", good, x, env("user", "User"), api.ErrUnknown},
		{"a Context not in order", none, x, env("User", "User", falling...), api.ErrType}, {"a name twice", good, x, env("User", "User", typ("{a: Long, a: Long}").Attrs...), api.ErrType}, {"no name", good, x, env("User", "User", typ("{: Long}").Attrs...), api.ErrType}, {"a field too much", good, x, env("User", "User", api.Attr{Name: "a", Type: odd(api.TypeLong)}), api.ErrType}, {"an entity of any type", good, x, env("User", "User", typ("{a: Any}").Attrs...), api.ErrType}, {"a set of nothing", good, x, env("User", "User", api.Attr{Name: "a", Type: api.Type{Kind: api.TypeSet}}), api.ErrType}, {"no type", good, x, env("User", "User", api.Attr{Name: "a", Type: api.Type{Kind: api.TypeCount}}), api.ErrType},
		{"a Context too deep", none, x, env("User", "User", tooDeep), api.ErrDepth}, {"as deep as may be", good, x, env("User", "User", api.Attr{Name: "d", Type: deepType(7)}), api.OK}, {"wrong ahead of deep", good, x, env("User", "User", tooDeep, falling[1]), api.ErrType}, {"too many attributes", good, x, env("User", "User", wide...), api.ErrType}, {"as many as may be", good, x, env("User", "User", wide[:16]...), api.OK},
		{"the expression's own", none, x, v, api.ErrMissing}, {"right", good, x, v, api.OK}, {"right, one type for both", good, x, env("Dir", "Dir"), api.OK},
	} {
		if got, why := types.Infer(c.e, c.x, c.v); why != c.want || why != api.OK && !zero(got) || why == api.OK && zero(got) {
			t.Errorf("%s: %v, error %d, not %d", c.name, got, why, c.want)
		}
	}
}

// Words: an expression's type may be nested deeper, and have more parts, than a type of a schema.
func TestTypesBeyondTheLimits(t *testing.T) {
	e, want := parsed(t, "context"), "{n: Long}"
	v := api.Env{Principal: "User", Resource: "Doc", Context: typ(want).Attrs}
	for range 14 {
		e, want = node(api.OpSet, e), "Set<"+want+">"
	}
	got, why := types.Infer(e, house(t), v)
	if why != api.OK || show(got) != want || schema.CheckType(got) != api.ErrDepth {
		t.Errorf("%v, error %d", got, why)
	}
}

// Promise 13.2: principal and resource are each of their own type, whichever they are.
func TestInferByEnv(t *testing.T) {
	for _, p := range []string{"User", "Group", "Doc", "Dir", "A::B"} {
		for _, r := range []string{"User", "Group", "Doc", "Dir", "A::B"} {
			v := api.Env{Principal: p, Resource: r, Context: typ("{p: Long}").Attrs}
			got, why := types.Infer(parsed(t, "{p: principal, r: resource, a: action, c: context}"), house(t), v)
			if want := "{a: Action, c: {p: Long}, p: " + p + ", r: " + r + "}"; why != api.OK || show(got) != want {
				t.Errorf("%v, error %d, not %s", got, why, want)
			}
		}
	}
}

// spoil writes over all that a type's lists have, and over the room behind them.
func spoil(t api.Type) {
	of, attrs := t.Of[:cap(t.Of)], t.Attrs[:cap(t.Attrs)]
	for i := range of {
		spoil(of[i])
		of[i] = typ("Spoilt")
	}
	for i := range attrs {
		spoil(attrs[i].Type)
		attrs[i] = api.Attr{Name: "spoilt"}
	}
}

// apart tells whether an answer's lists share no memory with one another: what is spoilt in one is not in the others.
func apart(t api.Type) bool {
	for i := range t.Attrs {
		whole := again(t)
		spoil(t.Attrs[i].Type)
		for j, a := range t.Attrs {
			if j > i && !same(a.Type, whole.Attrs[j].Type) {
				return false
			}
		}
	}
	return true
}

// Promise 13.3, and P3: what is handed in is neither changed nor kept, and no two lists of an answer share memory.
func TestNewMemoryOfJoins(t *testing.T) {
	list := []api.Type{typ("{a: Set<Long>, b: {c: Long}}")}
	attrs := typ("{c: Set<Long>, d: {e: Long}}").Attrs
	shared := api.Type{Kind: api.TypeRecord, Attrs: []api.Attr{{Name: "a", Type: api.Type{Kind: api.TypeSet, Of: list}}, {Name: "b", Type: api.Type{Kind: api.TypeSet, Of: list}}, {Name: "r", Type: api.Type{Kind: api.TypeRecord, Attrs: attrs}}, {Name: "s", Type: api.Type{Kind: api.TypeRecord, Attrs: attrs}}}}
	for _, s := range []string{"Never", show(shared)} {
		for _, turned := range []bool{false, true} {
			a, b := again(shared), typ(s)
			// The parts of a are shared as those of shared are.
			a.Attrs[1].Type.Of, a.Attrs[3].Type.Attrs = a.Attrs[0].Type.Of, a.Attrs[2].Type.Attrs
			join := func() api.Type {
				left, right := a, b
				if turned {
					left, right = b, a
				}
				got, why := types.Join(left, right)
				if why != api.OK || !same(got, shared) {
					t.Fatalf("with %s: %v, error %d", s, got, why)
				}
				return got
			}
			first, second, third := join(), join(), join()
			if !apart(third) {
				t.Errorf("with %s: two lists of an answer share memory", s)
			}
			spoil(first)
			if !same(second, shared) || !same(a, shared) || !same(b, typ(s)) {
				t.Errorf("with %s: an answer shares memory, or what was handed in is changed", s)
			}
			spoil(a)
			spoil(b)
			if !same(second, shared) {
				t.Errorf("with %s: what was handed in is kept", s)
			}
		}
	}
}

// Promise 13.3 of Infer and Uids.
func TestNewMemory(t *testing.T) {
	for _, s := range []string{`context`, `context.r`, `context.sl`, `[context]`, `[context, context]`, `{x: context, y: context}`, `{x: context.r, y: context.r, z: [context.r]}`, `if true then context else context`, `if true then context.never else context.r`, `principal.r`, `{x: principal.r, y: principal.r, z: principal.tags}`, `[principal.friends, []]`} {
		e, x, v := parsed(t, s), house(t), visit()
		infer := func() api.Type {
			got, why := types.Infer(e, x, v)
			if why != api.OK {
				t.Fatalf("%s: error %d", s, why)
			}
			return got
		}
		first, second, third := infer(), infer(), infer()
		want := again(second)
		if !apart(third) {
			t.Errorf("%s: two lists of an answer share memory", s)
		}
		spoil(first)
		print, _ := expr.Print(e)
		before, _ := expr.Print(parsed(t, s))
		if !same(second, want) || !reflect.DeepEqual(x, house(t)) || !reflect.DeepEqual(v, visit()) || print != before {
			t.Errorf("%s: an answer shares memory, or what was handed in is changed", s)
		}
		spoil(api.Type{Attrs: v.Context})
		for _, one := range x.Types {
			spoil(api.Type{Attrs: one.Attrs})
		}
		clear(e.Names)
		if !same(second, want) {
			t.Errorf("%s: what was handed in is kept", s)
		}
	}
	e := parsed(t, `[A::"1", A::"2"]`)
	first, second := types.Uids(e), types.Uids(e)
	clear(first[:cap(first)])
	if clear(e.Kids); len(second) != 2 || second[0].Id != "1" || second[1].Id != "2" {
		t.Errorf("Uids share memory: %v", second)
	}
}

// Promise 13.1: what is handed to Join and Fits as values is not changed.
func TestFitsChangesNothing(t *testing.T) {
	v, x := record("a,b", set(long(1), text("a")), record("c", long(1))), typ("{a: Set<Long>, b: {c: Long}}")
	if types.Fits(v, x); !reflect.DeepEqual(v, record("a,b", set(long(1), text("a")), record("c", long(1)))) || !same(x, typ("{a: Set<Long>, b: {c: Long}}")) {
		t.Error("what was handed in is changed")
	}
}

// P4.
func TestNoGoroutineIsLeft(t *testing.T) {
	before := runtime.NumGoroutine()
	for range 100 {
		types.Infer(parsed(t, "context.n < 1"), house(t), visit())
		types.Join(typ("{a: Long}"), typ("{a: Long}"))
		types.Fits(set(long(1)), typ("Set<Long>"))
		types.Uids(parsed(t, `A::"a"`))
	}
	if after := runtime.NumGoroutine(); after > before {
		t.Errorf("%d goroutines, before %d", after, before)
	}
}
