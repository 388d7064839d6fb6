package types_test

import (
	"math/rand"
	"slices"
	"strings"
	"testing"

	"lictor/api"
	"lictor/expr"
	"lictor/schema"
	"lictor/types"
	"lictor/value"
)

// This file tells chapter 13's words another way, by the texts of types, and holds the package against that.

// entityText tells whether a type's text is that of entities, of one type or of any.
func entityText(s string) bool {
	return !slices.Contains([]string{"Never", "Bool", "Long", "String"}, s) && !strings.HasPrefix(s, "Set<") && !strings.HasPrefix(s, "{")
}

// inSet is the text within that of a set's type.
func inSet(s string) (string, bool) {
	s, set := strings.CutPrefix(s, "Set<")
	return strings.TrimSuffix(s, ">"), set
}

// joined is the join of two types by their texts, none if they have none.
func joined(a, b string) string {
	partsA, setA := inSet(a)
	partsB, setB := inSet(b)
	switch {
	case a == b || b == "Never":
		return a
	case a == "Never":
		return b
	case entityText(a) && entityText(b):
		return "Any"
	case setA && setB:
		if parts := joined(partsA, partsB); parts != "" {
			return "Set<" + parts + ">"
		}
	case a[0] == '{' && b[0] == '{':
		return joinedAttrs(typ(a).Attrs, typ(b).Attrs)
	}
	return ""
}

func joinedAttrs(a, b []api.Attr) string {
	var l []string
	for i := range max(len(a), len(b)) {
		if i >= len(a) || i >= len(b) || a[i].Name != b[i].Name {
			return ""
		}
		both := joined(show(a[i].Type), show(b[i].Type))
		if both == "" {
			return ""
		}
		l = append(l, a[i].Name+": "+both)
	}
	return "{" + strings.Join(l, ", ") + "}"
}

// fitsText tells whether a right value fits a type by its text.
func fitsText(v api.Value, s string) bool {
	parts, set := inSet(s)
	switch v.Kind {
	case api.KindBool, api.KindLong, api.KindString:
		return s == []string{"Bool", "Long", "String"}[v.Kind]
	case api.KindEntity:
		return s == "Any" || s == v.T && entityText(s)
	case api.KindSet:
		for _, part := range v.List {
			set = set && fitsText(part, parts)
		}
		return set
	}
	if s[0] != '{' {
		return false
	}
	attrs := typ(s).Attrs
	fits := len(attrs) == len(v.List)
	for i := 0; fits && i < len(attrs); i++ {
		fits = attrs[i].Name == v.Names[i] && fitsText(v.List[i], show(attrs[i].Type))
	}
	return fits
}

// anyType is a type by chance, nested at most so deep; its records' names are in order.
func anyType(r *rand.Rand, deep int) string {
	if deep > 1 && r.Intn(3) > 0 {
		if r.Intn(2) == 0 {
			return "Set<" + anyType(r, deep-1) + ">"
		}
		var l []string
		for _, name := range []string{"a", "b"} {
			if r.Intn(4) > 0 {
				l = append(l, name+": "+anyType(r, deep-1))
			}
		}
		return "{" + strings.Join(l, ", ") + "}"
	}
	return oneOf(r, []string{"Never", "Never", "Bool", "Long", "String", "User", "Doc", "Any"})
}

// like is a type that is like another one in most parts.
func like(r *rand.Rand, s string) string {
	parts, set := inSet(s)
	switch {
	case r.Intn(8) == 0:
		return oneOf(r, []string{"Never", anyType(r, 2)})
	case set:
		return "Set<" + like(r, parts) + ">"
	case s[0] == '{':
		var l []string
		for _, a := range typ(s).Attrs {
			l = append(l, a.Name+": "+like(r, show(a.Type)))
		}
		return "{" + strings.Join(l, ", ") + "}"
	case entityText(s):
		return oneOf(r, []string{s, "User", "Any"})
	}
	return s
}

// anyValue is a right value by chance that fits a type most often.
func anyValue(r *rand.Rand, s string) api.Value {
	if r.Intn(12) == 0 {
		s = anyType(r, 2)
	}
	parts, set := inSet(s)
	switch {
	case set:
		var l []api.Value
		for range r.Intn(3) {
			l = append(l, anyValue(r, parts))
		}
		v, _ := value.Set(l)
		return v
	case s == "Never":
		return api.Value{Kind: api.KindSet}
	case s[0] == '{':
		v := api.Value{Kind: api.KindRecord}
		for _, a := range typ(s).Attrs {
			v.Names, v.List = append(v.Names, a.Name), append(v.List, anyValue(r, show(a.Type)))
		}
		return v
	case entityText(s):
		return being(oneOf(r, []string{strings.Replace(s, "Any", "User", 1), "User", "Doc"}), "a")
	}
	return map[string]api.Value{"Bool": boolean(true), "Long": long(3), "String": text("a")}[s]
}

// Promises 13.1 of Join and Fits, 13.4 and 13.5: types and values by chance.
func TestJoinByChance(t *testing.T) {
	r := rand.New(rand.NewSource(134))
	joins, fit := 0, 0
	for range 60000 {
		a := anyType(r, 4)
		b := like(r, a)
		got, why := types.Join(typ(a), typ(b))
		turned, reason := types.Join(typ(b), typ(a))
		if why != reason || !same(got, turned) {
			t.Fatalf("%s and %s: %v, error %d; turned %v, error %d", a, b, got, why, turned, reason)
		}
		want := joined(a, b)
		if want == "" && (why != api.ErrType || !zero(got)) || want != "" && (why != api.OK || !same(got, typ(want))) {
			t.Fatalf("%s and %s: %v, error %d, not %s", a, b, got, why, want)
		}
		if one, why := types.Join(typ(a), typ(a)); why != api.OK || !same(one, typ(a)) {
			t.Fatalf("%s with itself: %v, error %d", a, one, why)
		}
		v := anyValue(r, a)
		fits := types.Fits(v, typ(a))
		if fits != fitsText(v, a) {
			t.Fatalf("%v fits %s: %t", v, a, fits)
		}
		if want == "" {
			continue
		}
		joins++
		if fits {
			fit++
		}
		if (fits || types.Fits(v, typ(b))) && !types.Fits(v, got) {
			t.Fatalf("%v fits one of %s, %s, not %s", v, a, b, want)
		}
	}
	if joins < 10000 || fit < 5000 {
		t.Errorf("%d joins, %d values fit", joins, fit)
	}
}

// Promise 13.4: three types are joined alike, whichever two are joined first, if all are.
func TestJoinOfThree(t *testing.T) {
	r := rand.New(rand.NewSource(3))
	for range 20000 {
		a := anyType(r, 3)
		b, c := like(r, a), like(r, a)
		left, right := joined(a, b), joined(b, c)
		if left == "" || right == "" {
			continue
		}
		ab, _ := types.Join(typ(a), typ(b))
		bc, _ := types.Join(typ(b), typ(c))
		one, why := types.Join(ab, typ(c))
		two, reason := types.Join(typ(a), bc)
		if why == api.OK && reason == api.OK && !same(one, two) {
			t.Fatalf("%s, %s, %s: %v, %v", a, b, c, one, two)
		}
	}
}

// given is by what an expression has a type, as chapter 13's words have it.
type given struct {
	x api.Schema
	v api.Env
}

// knows tells whether the schema has a type.
func (g given) knows(name string) bool {
	return slices.ContainsFunc(g.x.Types, func(one api.EntityType) bool { return one.Name == name })
}

// attrs are those that what has a type's text has, and whether it may have any.
func (g given) attrs(s string) ([]api.Attr, bool) {
	if s[0] == '{' {
		return typ(s).Attrs, true
	}
	for _, one := range g.x.Types {
		if one.Name == s {
			return one.Attrs, true
		}
	}
	return nil, entityText(s) && s != "Any"
}

// told is the text of an expression's type.
func (g given) told(e api.Expr) (string, api.Errno) {
	var kids []string
	for _, k := range e.Kids {
		s, why := g.told(k)
		if why != api.OK {
			return "", why
		}
		kids = append(kids, s)
	}
	switch e.Op {
	case api.OpBool:
		return "Bool", api.OK
	case api.OpLong:
		return "Long", api.OK
	case api.OpString:
		return "String", api.OK
	case api.OpEntity:
		action := e.T == "Action" && slices.ContainsFunc(g.x.Actions, func(a api.Action) bool { return a.Id == e.S })
		if !action && !g.knows(e.T) {
			return "", api.ErrUnknown
		}
		return e.T, api.OK
	case api.OpVar:
		return map[string]string{"principal": g.v.Principal, "resource": g.v.Resource, "action": "Action", "context": show(api.Type{Kind: api.TypeRecord, Attrs: g.v.Context})}[e.S], api.OK
	case api.OpSet:
		parts := "Never"
		for _, k := range kids {
			if parts = joined(parts, k); parts == "" {
				return "", api.ErrType
			}
		}
		return "Set<" + parts + ">", api.OK
	case api.OpRecord:
		var l []string
		for _, name := range slices.Sorted(slices.Values(e.Names)) {
			l = append(l, name+": "+kids[slices.Index(e.Names, name)])
		}
		return "{" + strings.Join(l, ", ") + "}", api.OK
	case api.OpAttr:
		return g.attr(kids[0], e.S)
	case api.OpIf:
		if both := joined(kids[1], kids[2]); kids[0] == "Bool" && both != "" {
			return both, api.OK
		}
		return "", api.ErrType
	}
	return operator(e.Op, kids)
}

func (g given) attr(owner, name string) (string, api.Errno) {
	l, may := g.attrs(owner)
	if !may {
		return "", api.ErrType
	}
	for _, a := range l {
		if a.Name == name {
			return show(a.Type), api.OK
		}
	}
	return "", api.ErrMissing
}

// operator is the text of what an operator gives.
func operator(op api.Op, kids []string) (string, api.Errno) {
	both := func(s string) bool { return kids[0] == s && kids[1] == s }
	_, set := inSet(kids[0])
	second, sets := "", false
	if len(kids) > 1 {
		second, sets = inSet(kids[1])
	}
	may, gives := false, "Bool"
	switch op {
	case api.OpHas:
		may = entityText(kids[0]) || kids[0][0] == '{'
	case api.OpIs:
		may = entityText(kids[0])
	case api.OpLike:
		may = kids[0] == "String"
	case api.OpNot:
		may = kids[0] == "Bool"
	case api.OpNeg:
		may, gives = kids[0] == "Long", "Long"
	case api.OpAnd, api.OpOr:
		may = both("Bool")
	case api.OpEqual, api.OpUnlike:
		may = true
	case api.OpLess, api.OpMost, api.OpMore, api.OpLeast:
		may = both("Long")
	case api.OpIn:
		may = entityText(kids[0]) && (entityText(kids[1]) || sets && (entityText(second) || second == "Never"))
	case api.OpAdd, api.OpSub, api.OpMul:
		may, gives = both("Long"), "Long"
	case api.OpContains:
		may = set
	case api.OpAll, api.OpAny:
		may = set && sets
	}
	if !may {
		return "", api.ErrType
	}
	return gives, api.OK
}

// infers holds an expression's type against the words.
func (g given) infers(t *testing.T, e api.Expr) api.Errno {
	t.Helper()
	want, reason := g.told(e)
	got, why := types.Infer(e, g.x, g.v)
	if why != reason || why == api.OK && !same(got, typ(want)) || why != api.OK && !zero(got) {
		s, _ := expr.Print(e)
		t.Fatalf("%s: %v, error %d; not %s, error %d", s, got, why, want, reason)
	}
	return why
}

// plain is the schema of this file's tests: no name of it has a blank.
func plain(t *testing.T) given {
	x := house(t)
	x.Types[0].Attrs = typ("{age: Long, boss: User, friends: Set<User>, last: Action, r: {n: Long, x_y: Bool}, tags: Set<String>}").Attrs
	return given{x, visit()}
}

// samples are expressions of all types that Kids may be of.
func samples(t *testing.T) []api.Expr {
	l := []api.Expr{parsed(t, "principal"), parsed(t, "resource"), parsed(t, "action"), parsed(t, "context"), parsed(t, "[]"), parsed(t, "[[]]"), parsed(t, `if true then principal else resource`), parsed(t, `[principal, resource]`), parsed(t, "{}"), parsed(t, "{b: 1}")}
	for _, a := range visit().Context {
		l = append(l, parsed(t, "context."+a.Name))
	}
	return l
}

// Promise 13.2, and words: each op of Kids of all types.
func TestInferOfAllKinds(t *testing.T) {
	g, l := plain(t), samples(t)
	right := map[api.Op]int{}
	note := func(e api.Expr) {
		if g.infers(t, e) == api.OK {
			right[e.Op]++
		}
	}
	for _, a := range l {
		note(a)
		note(node(api.OpNot, a))
		note(node(api.OpNeg, a))
		note(api.Expr{Op: api.OpIs, T: "User", Kids: []api.Expr{a}})
		note(api.Expr{Op: api.OpLike, S: "*", Kids: []api.Expr{a}})
		for _, name := range []string{"a", "age", "n", "z", "none"} {
			note(api.Expr{Op: api.OpHas, S: name, Kids: []api.Expr{a}})
			note(api.Expr{Op: api.OpAttr, S: name, Kids: []api.Expr{a}})
		}
		for _, b := range l {
			for op := api.OpAnd; op < api.OpCount; op++ {
				note(node(op, a, b))
			}
			note(node(api.OpSet, a, b))
			note(api.Expr{Op: api.OpRecord, Names: []string{"y", "x"}, Kids: []api.Expr{a, b}})
			for _, test := range []string{"true", "context.b", "1", "context.never", "[]", "principal"} {
				note(node(api.OpIf, parsed(t, test), a, b))
			}
			for _, c := range l {
				note(node(api.OpSet, a, b, c))
			}
		}
	}
	for op := api.OpSet; op < api.OpCount; op++ {
		if right[op] == 0 {
			t.Errorf("op %d has never a type", op)
		}
	}
}

// anyExpr is an expression by chance, nested at most so deep; most often its Kids are what its op asks for.
func anyExpr(r *rand.Rand, deep int) api.Expr {
	return exprOf(r, deep, oneOf(r, []string{"bool", "long", "text", "being", "set", "beings", "record"}))
}

// leafOf is an expression of few nodes that is of a kind.
func leafOf(r *rand.Rand, kind string) api.Expr {
	texts := map[string][]string{
		"bool":   {"true", "context.b", "resource.public", "principal.r.x_y", "context.r.q.z"},
		"long":   {"1", "context.n", "principal.age", "context.r.a", `A::B::"x".n`},
		"text":   {`"a"`, "context.t", "resource.name", "resource.age"},
		"being":  {"principal", "resource", "action", "context.u", "context.g", "context.act", "context.dir", "resource.owner", `User::"a"`, `Action::"view"`, "principal.boss"},
		"set":    {"[]", "context.sl", "context.ss", "context.se", "principal.tags", "context.sr"},
		"beings": {"[]", "context.su", "context.sa", "principal.friends", "[action]"},
		"record": {"{}", "context", "context.r", "principal.r", "context.e", "{a: 1}"},
	}
	e, _, _ := expr.Parse(oneOf(r, texts[kind]))
	return e
}

// exprOf is an expression of a kind, if nothing goes wrong; now and then something does.
func exprOf(r *rand.Rand, deep int, kind string) api.Expr {
	switch r.Intn(60) {
	case 0:
		kind = oneOf(r, []string{"bool", "long", "text", "being", "set", "beings", "record"})
	case 1:
		e, _, _ := expr.Parse(oneOf(r, []string{`Nope::"a"`, `Action::"none"`, "context.none", "principal.none", "action.a", "context.never"}))
		return e
	}
	if deep <= 1 || r.Intn(4) == 0 {
		return leafOf(r, kind)
	}
	kid := func(kind string) api.Expr { return exprOf(r, deep-1, kind) }
	if r.Intn(6) == 0 {
		return node(api.OpIf, kid("bool"), kid(kind), kid(kind))
	}
	switch kind {
	case "bool":
		return boolOf(r, kid, func() api.Expr { return anyExpr(r, deep-1) })
	case "long":
		return oneOf(r, []api.Expr{node(api.OpNeg, kid("long")), node(oneOf(r, []api.Op{api.OpAdd, api.OpSub, api.OpMul}), kid("long"), kid("long")), {Op: api.OpAttr, S: "age", Kids: []api.Expr{kid("being")}}})
	case "set", "beings":
		within := map[string]string{"beings": "being", "set": oneOf(r, []string{"bool", "long", "text", "set", "record"})}[kind]
		e := node(api.OpSet)
		for range r.Intn(4) {
			e.Kids = append(e.Kids, kid(within))
		}
		return e
	case "record":
		return api.Expr{Op: api.OpRecord, Names: oneOf(r, [][]string{{"b", "a"}, {"n", "z"}}), Kids: []api.Expr{kid("long"), kid(oneOf(r, []string{"being", "beings", "set"}))}}
	}
	return api.Expr{Op: api.OpAttr, S: oneOf(r, []string{"a", "b", "boss", "owner", "z"}), Kids: []api.Expr{kid(oneOf(r, []string{"being", "record"}))}}
}

// boolOf is an expression that is a bool.
func boolOf(r *rand.Rand, kid func(string) api.Expr, some func() api.Expr) api.Expr {
	switch r.Intn(10) {
	case 0:
		return node(api.OpNot, kid("bool"))
	case 1, 2:
		return node(oneOf(r, []api.Op{api.OpAnd, api.OpOr}), kid("bool"), kid("bool"))
	case 3:
		return node(oneOf(r, []api.Op{api.OpEqual, api.OpUnlike}), some(), some())
	case 4:
		return node(oneOf(r, []api.Op{api.OpLess, api.OpMost, api.OpMore, api.OpLeast}), kid("long"), kid("long"))
	case 5:
		return node(api.OpIn, kid("being"), kid(oneOf(r, []string{"being", "beings"})))
	case 6:
		return node(api.OpContains, kid(oneOf(r, []string{"set", "beings"})), some())
	case 7:
		return node(oneOf(r, []api.Op{api.OpAll, api.OpAny}), kid("set"), kid("beings"))
	case 8:
		return api.Expr{Op: api.OpHas, S: oneOf(r, []string{"age", "a", "none"}), Kids: []api.Expr{kid(oneOf(r, []string{"being", "record"}))}}
	}
	return oneOf(r, []api.Expr{{Op: api.OpIs, T: "User", Kids: []api.Expr{kid("being")}}, {Op: api.OpLike, S: `*0*`, Kids: []api.Expr{kid("text")}}})
}

// entities are those of an expression, as they stand.
func entities(e api.Expr) []api.Uid {
	var l []api.Uid
	for todo := []api.Expr{e}; len(todo) > 0; {
		e, todo = todo[0], todo[1:]
		if e.Op == api.OpEntity {
			l = append(l, api.Uid{Type: e.T, Id: e.S})
		}
		todo = slices.Concat(e.Kids, todo)
	}
	return l
}

// Promises 13.1 of Uids and 13.2, and words: expressions by chance, against the words.
func TestInferByChance(t *testing.T) {
	r := rand.New(rand.NewSource(132))
	g := plain(t)
	seen, named := map[api.Errno]int{}, 0
	for range 30000 {
		e := anyExpr(r, 1+r.Intn(6))
		if expr.Check(e) != api.OK {
			continue
		}
		seen[g.infers(t, e)]++
		want := entities(e)
		if got := types.Uids(e); !slices.Equal(got, want) {
			t.Fatalf("%v: %v, not %v", e, got, want)
		}
		if len(want) > 1 {
			named++
		}
	}
	for _, why := range []api.Errno{api.OK, api.ErrType, api.ErrMissing, api.ErrUnknown} {
		if seen[why] < 500 {
			t.Errorf("error %d comes %d times", why, seen[why])
		}
	}
	if named < 1000 {
		t.Errorf("%d name two entities", named)
	}
}

// oddType is any type, with any fields.
func oddType(r *rand.Rand, deep int) api.Type {
	t := api.Type{Kind: api.TypeKind(r.Intn(int(api.TypeCount) + 2))}
	if r.Intn(2) == 0 {
		t.Name = oneOf(r, []string{"", "User", "in", "\xff"})
	}
	for range r.Intn(3) {
		if deep > 1 {
			t.Of = append(t.Of, oddType(r, deep-1))
		}
	}
	for range r.Intn(3) {
		if deep > 1 {
			t.Attrs = append(t.Attrs, api.Attr{Name: oneOf(r, []string{"", "a", "b", "\xff"}), Type: oddType(r, deep-1)})
		}
	}
	return t
}

// oddValue is any value, with any fields.
func oddValue(r *rand.Rand, deep int) api.Value {
	v := api.Value{Kind: api.Kind(r.Intn(int(api.KindCount) + 2)), N: int64(r.Intn(2)), T: oneOf(r, []string{"", "User", "in"}), S: oneOf(r, []string{"", "\xff"})}
	for range r.Intn(3) {
		v.Names = append(v.Names, oneOf(r, []string{"", "a", "b", "\xff"}))
		if deep > 1 {
			v.List = append(v.List, oddValue(r, deep-1))
		}
	}
	return v
}

// P1, P2, promises 13.4 and 13.5: whatever is handed in, and very deep types, values and expressions.
func TestWhateverIsHandedIn(t *testing.T) {
	r := rand.New(rand.NewSource(1))
	joins, fit := 0, 0
	for range 60000 {
		a, b, v := oddType(r, 3), oddType(r, 3), oddValue(r, 3)
		got, why := types.Join(a, b)
		if turned, reason := types.Join(b, a); why != reason || why != api.OK && (why != api.ErrType || !zero(got)) || !same(got, turned) {
			t.Fatalf("%v and %v: %v, error %d; turned %v, error %d", a, b, got, why, turned, reason)
		}
		fits := types.Fits(v, a)
		if why == api.OK {
			joins++
		}
		if why == api.OK && fits {
			fit++
			if !types.Fits(v, got) {
				t.Fatalf("%v fits %v, not that joined with %v", v, a, b)
			}
		}
		if schema.CheckType(a) == api.OK {
			if one, why := types.Join(a, a); why != api.OK || !same(one, a) {
				t.Fatalf("%v with itself: %v, error %d", a, one, why)
			}
		}
		e := anyExpr(r, 2)
		e.Op = api.Op(r.Intn(int(api.OpCount) + 2))
		env := api.Env{Principal: oneOf(r, []string{"User", "", "in"}), Resource: oneOf(r, []string{"User", "Doc"}), Context: []api.Attr{{Name: "a", Type: a}}}
		x := api.Schema{Types: []api.EntityType{{Name: "User", Attrs: env.Context}, {Name: "Doc"}}}
		if got, why := types.Infer(e, x, env); why != api.OK && !zero(got) {
			t.Fatalf("%v: %v, error %d", e, got, why)
		}
		if got, want := types.Uids(e), entities(e); !slices.Equal(got, want) {
			t.Fatalf("%v: %v, not %v", e, got, want)
		}
	}
	if joins < 5000 || fit < 300 {
		t.Errorf("%d joins, %d values fit", joins, fit)
	}
}

func TestVeryDeep(t *testing.T) {
	deep, v, e := typ("Long"), long(1), api.Expr{Op: api.OpEntity, T: "A", S: "a"}
	for i := range 1 << 16 {
		if i%2 == 0 {
			deep, v = api.Type{Kind: api.TypeSet, Of: []api.Type{deep}}, set(v)
		} else {
			deep, v = api.Type{Kind: api.TypeRecord, Attrs: []api.Attr{{Name: "a", Type: deep}}}, record("a", v)
		}
		e = node(api.OpIn, api.Expr{Op: api.OpEntity, T: "B"}, e)
	}
	if got, why := types.Join(deep, deep); why != api.OK || got.Kind != deep.Kind {
		t.Errorf("Join: error %d", why)
	}
	if got, why := types.Join(deep, api.Type{}); why != api.OK || got.Kind != deep.Kind {
		t.Errorf("Join with a TypeNever: error %d", why)
	}
	if !types.Fits(v, deep) || types.Fits(v, deep.Attrs[0].Type) {
		t.Error("Fits: something else")
	}
	if l := types.Uids(e); len(l) != 1<<16+1 || l[1<<16].Id != "a" {
		t.Errorf("Uids: %d", len(l))
	}
	if got, why := types.Infer(e, house(t), visit()); why != api.ErrDepth || !zero(got) {
		t.Errorf("Infer: error %d", why)
	}
	env := visit()
	env.Context = []api.Attr{{Name: "a", Type: deep}}
	if got, why := types.Infer(parsed(t, "1"), house(t), env); why != api.ErrDepth || !zero(got) {
		t.Errorf("Infer of a deep Context: error %d", why)
	}
}
