package schema_test

import (
	"math/rand"
	"reflect"
	"runtime"
	"slices"
	"sort"
	"strconv"
	"strings"
	"testing"
	"unicode/utf8"

	"lictor/api"
	"lictor/schema"
	"lictor/value"
)

// The types that have nothing but their kind.
var (
	never   = api.Type{Kind: api.TypeNever}
	boolean = api.Type{Kind: api.TypeBool}
	long    = api.Type{Kind: api.TypeLong}
	text    = api.Type{Kind: api.TypeString}
)

func being(name string) api.Type { return api.Type{Kind: api.TypeEntity, Name: name} }

func set(of ...api.Type) api.Type { return api.Type{Kind: api.TypeSet, Of: of} }

func record(l ...api.Attr) api.Type { return api.Type{Kind: api.TypeRecord, Attrs: l} }

func attr(name string, t api.Type) api.Attr { return api.Attr{Name: name, Type: t} }

// attrs are some of names with commas between, all of one type.
func attrs(names string, t api.Type) []api.Attr {
	var l []api.Attr
	for _, s := range strings.Split(names, ",") {
		l = append(l, attr(s, t))
	}
	return l
}

// letters are n names in order, with commas between.
func letters(n int) string {
	return strings.Join(strings.Split("abcdefghijklmnopqrstuvwxyz"[:n], ""), ",")
}

// nested is a type within so many sets and records, in turn.
func nested(deep int, t api.Type) api.Type {
	for i := 1; i < deep; i++ {
		if i%2 == 0 {
			t = set(t)
		} else {
			t = record(attr("a", t))
		}
	}
	return t
}

// kind is a type of entities whose attributes are any many.
func kind(name string, parents []string, l ...api.Attr) api.EntityType {
	return api.EntityType{Name: name, Parents: parents, Attrs: l}
}

// deed is an action.
func deed(id string, principals, resources []string, l ...api.Attr) api.Action {
	return api.Action{Id: id, Principals: principals, Resources: resources, Context: l}
}

// list has any many names.
func list(names ...string) []string { return names }

// named is a schema of types without more than a name.
func named(names ...string) api.Schema {
	var x api.Schema
	for _, s := range names {
		x.Types = append(x.Types, kind(s, nil))
	}
	return x
}

// manyNames are n names, in order.
func manyNames(n int) []string {
	var l []string
	for i := range n {
		l = append(l, "T"+strconv.Itoa(10000000+i))
	}
	return l
}

// typeAgain is the same type in memory of its own.
func typeAgain(t api.Type) api.Type {
	t.Of = slices.Clone(t.Of)
	for i := range t.Of {
		t.Of[i] = typeAgain(t.Of[i])
	}
	t.Attrs = attrsAgain(t.Attrs)
	return t
}

func attrsAgain(l []api.Attr) []api.Attr {
	l = slices.Clone(l)
	for i := range l {
		l[i].Type = typeAgain(l[i].Type)
	}
	return l
}

// again is the same schema in memory of its own.
func again(x api.Schema) api.Schema {
	x.Types, x.Actions = slices.Clone(x.Types), slices.Clone(x.Actions)
	for i, t := range x.Types {
		x.Types[i] = kind(t.Name, slices.Clone(t.Parents), attrsAgain(t.Attrs)...)
	}
	for i, a := range x.Actions {
		x.Actions[i] = deed(a.Id, slices.Clone(a.Principals), slices.Clone(a.Resources), attrsAgain(a.Context)...)
	}
	return x
}

// with is x, changed.
func with(x api.Schema, change func(x *api.Schema)) api.Schema {
	x = again(x)
	change(&x)
	return x
}

// typesAlike tells whether two types are the same; nil and empty lists are.
func typesAlike(a, b api.Type) bool {
	return a.Kind == b.Kind && a.Name == b.Name && slices.EqualFunc(a.Of, b.Of, typesAlike) && attrsAlike(a.Attrs, b.Attrs)
}

func attrsAlike(a, b []api.Attr) bool {
	return slices.EqualFunc(a, b, func(a, b api.Attr) bool { return a.Name == b.Name && typesAlike(a.Type, b.Type) })
}

func kindsAlike(a, b api.EntityType) bool {
	return a.Name == b.Name && slices.Equal(a.Parents, b.Parents) && attrsAlike(a.Attrs, b.Attrs)
}

func deedsAlike(a, b api.Action) bool {
	return a.Id == b.Id && slices.Equal(a.Principals, b.Principals) && slices.Equal(a.Resources, b.Resources) && attrsAlike(a.Context, b.Context)
}

// alike tells whether two schemas are the same.
func alike(a, b api.Schema) bool {
	return slices.EqualFunc(a.Types, b.Types, kindsAlike) && slices.EqualFunc(a.Actions, b.Actions, deedsAlike)
}

// zero tells whether an answer is the zero one.
func zero(v any) bool { return reflect.ValueOf(v).IsZero() }

// oneOf is one of a list by chance.
func oneOf[T any](r *rand.Rand, l []T) T { return l[r.Intn(len(l))] }

// attrNames are right ones, at their limits, too.
func attrNames() []string {
	return []string{"a", "b", "_c", "in", "entity", "x y", "é", "*", `\*`, "\n\x00", `"`, ":", "A::B", "0", strings.Repeat("n", 64), strings.Repeat("é", 32), "principal"}
}

// kindNames are right ones, at their limits, too; some begin with a name that no type has.
func kindNames() []string {
	return []string{"User", "Group", "A::B", "A", "_", "contains", "Bool::X", "Set::Long", "Long::Long", "Action::A", "set", "T::Set", strings.Repeat("T", 64), strings.Repeat("T", 31) + "::" + strings.Repeat("T", 31)}
}

// some is some of a list by chance, in order.
func some(r *rand.Rand, l []string, most int) []string {
	var out []string
	for _, i := range r.Perm(len(l))[:r.Intn(min(len(l), most)+1)] {
		out = append(out, l[i])
	}
	sort.Strings(out)
	return out
}

// anyType is a right type by chance, nested at most so deep, with entities of some types.
func anyType(r *rand.Rand, deep int, names []string) api.Type {
	if deep <= 1 || r.Intn(3) == 0 {
		return oneOf(r, []api.Type{boolean, long, text, record(), being("Action"), being(oneOf(r, names))})
	}
	if r.Intn(2) == 0 {
		return set(anyType(r, deep-1, names))
	}
	return record(anyAttrs(r, deep-1, names)...)
}

// anyAttrs are right attributes by chance, each nested at most so deep.
func anyAttrs(r *rand.Rand, deep int, names []string) []api.Attr {
	var l []api.Attr
	for _, s := range some(r, attrNames(), 4) {
		l = append(l, attr(s, anyType(r, deep, names)))
	}
	return l
}

// anySchema is a right schema by chance.
func anySchema(r *rand.Rand) api.Schema {
	var x api.Schema
	names := kindNames()
	r.Shuffle(len(names), func(i, j int) { names[i], names[j] = names[j], names[i] })
	names = names[:1+r.Intn(4)]
	for _, s := range names {
		x.Types = append(x.Types, kind(s, some(r, names, 3), anyAttrs(r, 1+r.Intn(4), names)...))
	}
	for _, i := range r.Perm(len(attrNames()))[:r.Intn(4)] {
		x.Actions = append(x.Actions, deed(append(attrNames(), "")[i+1], some(r, names, 3), some(r, names, 3), anyAttrs(r, 1+r.Intn(3), names)...))
	}
	return x
}

// within tells whether s is UTF-8, and has from least to most bytes.
func within(s string, least, most int) bool {
	return utf8.ValidString(s) && least <= len(s) && len(s) <= most
}

// inOrder tells whether names rise, none twice.
func inOrder(l []string) bool {
	return slices.IsSorted(l) && len(slices.Compact(slices.Clone(l))) == len(l)
}

// measure is how deep a type is nested, and whether all else of it is right, as chapter 10's words have it.
func measure(t api.Type) (deep int, right bool) {
	var names []string
	right = true
	for _, a := range t.Attrs {
		d, ok := measure(a.Type)
		deep, right = max(deep, d), right && ok && within(a.Name, 1, 64)
		names = append(names, a.Name)
	}
	for _, of := range t.Of {
		d, ok := measure(of)
		deep, right = max(deep, d), right && ok
	}
	switch t.Kind {
	case api.TypeNever, api.TypeBool, api.TypeLong, api.TypeString:
		right = right && t.Name == "" && len(t.Of)+len(t.Attrs) == 0
	case api.TypeEntity:
		right = right && value.TypeName(t.Name) && len(t.Of)+len(t.Attrs) == 0
	case api.TypeSet:
		right = right && t.Name == "" && len(t.Of) == 1 && len(t.Attrs) == 0
	case api.TypeRecord:
		right = right && t.Name == "" && len(t.Of) == 0 && len(t.Attrs) <= 16 && inOrder(names)
	default:
		right = false
	}
	return deep + 1, right
}

// typeChecked is what CheckType answers, as chapter 10's words have it.
func typeChecked(t api.Type) api.Errno {
	deep, right := measure(t)
	switch {
	case !right:
		return api.ErrType
	case deep > 8:
		return api.ErrDepth
	}
	return api.OK
}

// flaws are what names and TypeNevers within a type come to, as they are met: ErrUnknown, ErrType.
func flaws(t api.Type, types []string) []api.Errno {
	switch t.Kind {
	case api.TypeNever:
		return []api.Errno{api.ErrType}
	case api.TypeEntity:
		return unknown([]string{t.Name}, append(slices.Clone(types), "Action"))
	}
	var l []api.Errno
	for _, of := range t.Of {
		l = append(l, flaws(of, types)...)
	}
	for _, a := range t.Attrs {
		l = append(l, flaws(a.Type, types)...)
	}
	return l
}

// unknown has an ErrUnknown for each name that is none of the types.
func unknown(names, types []string) []api.Errno {
	var l []api.Errno
	for _, s := range names {
		if !slices.Contains(types, s) {
			l = append(l, api.ErrUnknown)
		}
	}
	return l
}

// checked is what Check answers, as chapter 10's words have it: the first of all errors, as they are named.
func checked(x api.Schema) api.Errno {
	var many, syntax, twice, typed, met []api.Errno
	var names, ids []string
	for _, t := range x.Types {
		names = append(names, t.Name)
	}
	for _, a := range x.Actions {
		ids = append(ids, a.Id)
	}
	if len(names) > 16 || len(ids) > 16 {
		many = append(many, api.ErrMany)
	}
	for i, t := range x.Types {
		if !value.TypeName(t.Name) || slices.Contains([]string{"Bool", "Long", "String", "Set", "Action"}, t.Name) || len(t.Parents) > 16 || !inOrder(t.Parents) {
			syntax = append(syntax, api.ErrSyntax)
		}
		if slices.Contains(names[:i], t.Name) {
			twice = append(twice, api.ErrTwice)
		}
		typed = append(typed, typeChecked(record(t.Attrs...)))
		met = append(append(met, unknown(t.Parents, names)...), flaws(record(t.Attrs...), names)...)
	}
	for i, a := range x.Actions {
		if !within(a.Id, 0, 64) || len(a.Principals) > 16 || len(a.Resources) > 16 || !inOrder(a.Principals) || !inOrder(a.Resources) {
			syntax = append(syntax, api.ErrSyntax)
		}
		if slices.Contains(ids[:i], a.Id) {
			twice = append(twice, api.ErrTwice)
		}
		typed = append(typed, typeChecked(record(a.Context...)))
		met = append(append(append(met, unknown(a.Principals, names)...), unknown(a.Resources, names)...), flaws(record(a.Context...), names)...)
	}
	for _, why := range slices.Concat(many, syntax, twice, typed, met) {
		if why != api.OK {
			return why
		}
	}
	return api.OK
}

// holds asks Check and Print of a schema that is made by hand.
func holds(t *testing.T, name string, x api.Schema, want api.Errno) {
	t.Helper()
	before := again(x)
	if why := schema.Check(x); why != want {
		t.Errorf("%s: error %d, not %d", name, why, want)
	}
	s, why := schema.Print(x)
	if why != want || want != api.OK && s != "" {
		t.Errorf("%s: printed %.80q, error %d, not %d", name, s, why, want)
	}
	if !alike(x, before) {
		t.Errorf("%s: what was handed in is changed", name)
	}
}

// typeHolds asks CheckType and ShowType of a type.
func typeHolds(t *testing.T, name string, x api.Type, want api.Errno) {
	t.Helper()
	before := typeAgain(x)
	if why := schema.CheckType(x); why != want {
		t.Errorf("%s: error %d, not %d", name, why, want)
	}
	if want == api.OK && slices.Contains(flaws(x, nil), api.ErrType) {
		want = api.ErrType
	}
	s, why := schema.ShowType(x)
	if why != want || (s == "") != (want != api.OK) {
		t.Errorf("%s: shown %.80q, error %d, not %d", name, s, why, want)
	}
	if !typesAlike(x, before) {
		t.Errorf("%s: what was handed in is changed", name)
	}
}

// The sections Limits and Errors, as far as they speak of schemas.
func TestLimitsAndErrors(t *testing.T) {
	if api.MaxText != 2048 || api.MaxId != 64 || api.MaxNest != 8 || api.MaxParts != 16 || api.MaxTypes != 16 {
		t.Error("a limit is another one")
	}
	if api.OK != 0 || api.ErrMany != 2 || api.ErrLong != 3 || api.ErrDepth != 4 || api.ErrSyntax != 5 || api.ErrUtf != 6 || api.ErrType != 7 || api.ErrUnknown != 9 || api.ErrTwice != 10 {
		t.Error("an error's number is another one")
	}
	for i, k := range []api.TypeKind{api.TypeNever, api.TypeBool, api.TypeLong, api.TypeString, api.TypeEntity, api.TypeSet, api.TypeRecord, api.TypeCount} {
		if int(k) != i {
			t.Errorf("kind %d is %d", i, k)
		}
	}
}

// Promise 10.1 of CheckType, and words: types of each kind, and what is another one than they in one field.
func TestTypesOfEachKind(t *testing.T) {
	n64, n65 := strings.Repeat("n", 64), strings.Repeat("n", 65)
	l := []api.Type{never, boolean, long, text, being("A"), being("A::B"), being("Action"), being("Bool"), being(n64), set(never), set(long), set(set(record())), record(), record(attr("a", never)), record(attr("a", long), attr("b", set(text)))}
	for _, s := range attrNames() {
		l = append(l, record(attr(s, long)))
	}
	for _, s := range []string{"", n65, strings.Repeat("é", 33), "\xff", "a\xc3", strings.Repeat("n", 257)} {
		l = append(l, record(attr(s, long)), record(attr("a", long), attr(s, long)), set(record(attr(s, long))))
	}
	for _, s := range []string{"", "in", "A::", "A::in", ":", n65, n64 + "::A", "\xff"} {
		l = append(l, being(s), set(being(s)), record(attr("a", being(s))))
	}
	for n := range 19 {
		l = append(l, record(attrs(letters(n+1), long)[:n]...), set(make([]api.Type, n)...))
	}
	l = append(l, record(attrs("b,a", long)...), record(attrs("a,a", long)...), record(attrs("a,c,b", long)...), record(attrs("a,B", long)...), record(attrs("B,a", long)...), record(attrs("a,a0,a_", long)...))
	changes := []func(t *api.Type){
		func(t *api.Type) {}, func(t *api.Type) { t.Name = "A" }, func(t *api.Type) { t.Name = "" }, func(t *api.Type) { t.Of = []api.Type{long} }, func(t *api.Type) { t.Of = []api.Type{} }, func(t *api.Type) { t.Of = nil }, func(t *api.Type) { t.Of = []api.Type{long, long} }, func(t *api.Type) { t.Of = []api.Type{being("")} },
		func(t *api.Type) { t.Attrs = []api.Attr{} }, func(t *api.Type) { t.Attrs = attrs("a", long) }, func(t *api.Type) { t.Attrs = attrs("b,a", long) }, func(t *api.Type) { t.Attrs = append(t.Attrs, attr("z", set())) },
	}
	tally := map[api.Errno]int{}
	for i, x := range l {
		for j, change := range changes {
			for k := range 256 {
				other := typeAgain(x)
				change(&other)
				if k < 255 {
					other.Kind = api.TypeKind(k)
				}
				if k > 10 && k < 250 {
					continue
				}
				for n, y := range []api.Type{other, set(other), record(attr("a", long), attr("b", other))} {
					want := typeChecked(y)
					tally[want]++
					typeHolds(t, strings.Join([]string{strconv.Itoa(i), strconv.Itoa(j), strconv.Itoa(k), strconv.Itoa(n)}, "."), y, want)
				}
			}
		}
	}
	if tally[api.OK] < 1000 || tally[api.ErrType] < 1000 {
		t.Errorf("how often: %v", tally)
	}
}

// Promise 10.1 of CheckType: how deep a type may be nested; what is not right shows ahead of that.
func TestNestedTypes(t *testing.T) {
	for _, x := range []struct {
		name string
		t    api.Type
		want api.Errno
	}{
		{"8 deep", nested(8, long), api.OK}, {"9 deep", nested(9, long), api.ErrDepth}, {"10 deep", nested(10, long), api.ErrDepth}, {"2^16 deep", nested(1<<16, long), api.ErrDepth},
		{"8 deep, none", nested(8, never), api.OK}, {"9 deep, none", nested(9, never), api.ErrDepth}, {"8 deep, empty", nested(8, record()), api.OK}, {"9 deep, empty", nested(9, record()), api.ErrDepth},
		{"deep on the left", record(attr("a", nested(8, long)), attr("b", long)), api.ErrDepth}, {"deep on the right", record(attr("a", long), attr("b", nested(8, long))), api.ErrDepth}, {"not deep on either", record(attr("a", nested(7, long)), attr("b", nested(7, text))), api.OK},
		{"deep, then wrong", record(attr("a", nested(20, long)), attr("b", being(""))), api.ErrType}, {"wrong, then deep", record(attr("a", being("")), attr("b", nested(20, long))), api.ErrType}, {"wrong and very deep", nested(40, set()), api.ErrType}, {"wrong and 9 deep", nested(9, api.Type{Kind: api.TypeCount}), api.ErrType},
	} {
		typeHolds(t, x.name, x.t, x.want)
	}
}

// Promise 10.1 of Check, and words: schemas at their limits, and what is wrong in one place.
func TestCheck(t *testing.T) {
	n65, l17 := strings.Repeat("n", 65), manyNames(17)
	users := []api.EntityType{kind("B", nil), kind("A", list("A", "B"), attr("a", being("B")), attr("b", set(being("Action"))))}
	x := api.Schema{Types: users, Actions: []api.Action{deed("v", list("A"), list("A", "B"), attr("ip", text)), deed("", nil, nil)}}
	many := named(manyNames(16)...)
	many.Types[3].Parents = manyNames(16)
	for i := range 16 {
		many.Actions = append(many.Actions, deed(strconv.Itoa(i), manyNames(16), manyNames(16), attrs(letters(16), long)...))
	}
	for _, y := range []struct {
		name string
		x    api.Schema
		want api.Errno
	}{
		{"none", api.Schema{}, api.OK}, {"empty lists", api.Schema{Types: []api.EntityType{}, Actions: []api.Action{}}, api.OK}, {"a schema", x, api.OK}, {"16 of all", many, api.OK}, {"all names", named(kindNames()...), api.OK}, {"actions alone", api.Schema{Actions: x.Actions[1:]}, api.OK},
		{"17 types", named(l17...), api.ErrMany}, {"very many types", named(manyNames(1 << 10)...), api.ErrMany}, {"17 actions", with(many, func(x *api.Schema) { x.Actions = append(x.Actions, deed("a", nil, nil)) }), api.ErrMany},
		{"a type called Bool", named("Bool"), api.ErrSyntax}, {"Long", named("Long"), api.ErrSyntax}, {"String", named("A", "String"), api.ErrSyntax}, {"Set", named("Set"), api.ErrSyntax}, {"Action", named("Action"), api.ErrSyntax}, {"no name", named(""), api.ErrSyntax}, {"a word", named("in"), api.ErrSyntax}, {"a long name", named(n65), api.ErrSyntax}, {"a wrong name", named("A::"), api.ErrSyntax}, {"entity", named("entity"), api.ErrSyntax},
		{"parents not in order", with(x, func(x *api.Schema) { x.Types[1].Parents = list("B", "A") }), api.ErrSyntax}, {"a parent twice", with(x, func(x *api.Schema) { x.Types[1].Parents = list("A", "A") }), api.ErrSyntax}, {"17 parents", with(x, func(x *api.Schema) { x.Types[1].Parents = l17 }), api.ErrSyntax},
		{"principals not in order", with(x, func(x *api.Schema) { x.Actions[0].Principals = list("B", "A") }), api.ErrSyntax}, {"a principal twice", with(x, func(x *api.Schema) { x.Actions[0].Principals = list("B", "B") }), api.ErrSyntax}, {"17 principals", with(x, func(x *api.Schema) { x.Actions[0].Principals = l17 }), api.ErrSyntax},
		{"resources not in order", with(x, func(x *api.Schema) { x.Actions[1].Resources = list("B", "A") }), api.ErrSyntax}, {"a resource twice", with(x, func(x *api.Schema) { x.Actions[1].Resources = list("B", "B") }), api.ErrSyntax}, {"17 resources", with(x, func(x *api.Schema) { x.Actions[1].Resources = l17 }), api.ErrSyntax},
		{"a long id", with(x, func(x *api.Schema) { x.Actions[1].Id = n65 }), api.ErrSyntax}, {"as long an id as may be", with(x, func(x *api.Schema) { x.Actions[1].Id = n65[1:] }), api.OK}, {"an id that is no UTF-8", with(x, func(x *api.Schema) { x.Actions[1].Id = "\xff" }), api.ErrSyntax}, {"a long id of runes", with(x, func(x *api.Schema) { x.Actions[0].Id = strings.Repeat("é", 33) }), api.ErrSyntax},
		{"a type twice", named("A", "B", "A"), api.ErrTwice}, {"an id twice", with(x, func(x *api.Schema) { x.Actions[1].Id = "v" }), api.ErrTwice},
		{"attributes not in order", with(x, func(x *api.Schema) { x.Types[0].Attrs = attrs("b,a", long) }), api.ErrType}, {"an attribute twice", with(x, func(x *api.Schema) { x.Types[0].Attrs = attrs("a,a", long) }), api.ErrType}, {"17 attributes", with(x, func(x *api.Schema) { x.Types[0].Attrs = attrs(letters(17), long) }), api.ErrType}, {"an attribute without name", with(x, func(x *api.Schema) { x.Types[1].Attrs[0].Name = "" }), api.ErrType}, {"a wrong type", with(x, func(x *api.Schema) { x.Types[1].Attrs[0].Type = set() }), api.ErrType}, {"any entity", with(x, func(x *api.Schema) { x.Types[1].Attrs[0].Type = being("") }), api.ErrType},
		{"attributes 8 deep", with(x, func(x *api.Schema) { x.Types[0].Attrs = attrs("a", nested(7, long)) }), api.OK}, {"attributes 9 deep", with(x, func(x *api.Schema) { x.Types[0].Attrs = attrs("a", nested(8, long)) }), api.ErrDepth},
		{"a context not in order", with(x, func(x *api.Schema) { x.Actions[1].Context = attrs("b,a", long) }), api.ErrType}, {"a context 8 deep", with(x, func(x *api.Schema) { x.Actions[1].Context = attrs("a", nested(7, long)) }), api.OK}, {"a context 9 deep", with(x, func(x *api.Schema) { x.Actions[1].Context = attrs("a", nested(8, long)) }), api.ErrDepth}, {"a context of 17", with(x, func(x *api.Schema) { x.Actions[0].Context = attrs(letters(17), long) }), api.ErrType},
		{"a parent that is none", with(x, func(x *api.Schema) { x.Types[0].Parents = list("C") }), api.ErrUnknown}, {"a parent that is no name", with(x, func(x *api.Schema) { x.Types[0].Parents = list("") }), api.ErrUnknown}, {"Action as a parent", with(x, func(x *api.Schema) { x.Types[0].Parents = list("Action") }), api.ErrUnknown}, {"a principal that is none", with(x, func(x *api.Schema) { x.Actions[0].Principals = list("A", "C") }), api.ErrUnknown}, {"Action as a principal", with(x, func(x *api.Schema) { x.Actions[0].Principals = list("Action") }), api.ErrUnknown}, {"a resource that is none", with(x, func(x *api.Schema) { x.Actions[1].Resources = list("0") }), api.ErrUnknown}, {"Bool as a resource", with(x, func(x *api.Schema) { x.Actions[1].Resources = list("Bool") }), api.ErrUnknown},
		{"an attribute of no type", with(x, func(x *api.Schema) { x.Types[1].Attrs[1].Type = set(being("C")) }), api.ErrUnknown}, {"a context of no type", with(x, func(x *api.Schema) { x.Actions[0].Context = attrs("a", record(attr("b", being("User")))) }), api.ErrUnknown}, {"an attribute of an entity called Bool", with(x, func(x *api.Schema) { x.Types[1].Attrs[1].Type = being("Bool") }), api.ErrUnknown},
		{"a TypeNever", with(x, func(x *api.Schema) { x.Types[0].Attrs = attrs("a", never) }), api.ErrType}, {"a TypeNever in a context", with(x, func(x *api.Schema) { x.Actions[1].Context = attrs("a", set(record(attr("b", never)))) }), api.ErrType}, {"an Action", with(x, func(x *api.Schema) { x.Actions[0].Context = attrs("a", being("Action")) }), api.OK},
	} {
		if checked(y.x) != y.want {
			t.Errorf("%s: the test has error %d, not %d", y.name, checked(y.x), y.want)
		}
		holds(t, y.name, y.x, y.want)
	}
}

// spoilers make a right schema wrong in one way: the error beside each, in the order in which the chapter names them.
func spoilers() []func(x *api.Schema) api.Errno {
	deep := func(l *[]api.Attr) { *l = append(slices.Clone(*l), attr("\U0010ffff", nested(8, long))) }
	return []func(x *api.Schema) api.Errno{
		func(x *api.Schema) api.Errno { x.Types = named(manyNames(17)...).Types; return api.ErrMany },
		func(x *api.Schema) api.Errno { x.Actions = make([]api.Action, 17); return api.ErrMany },
		func(x *api.Schema) api.Errno { x.Types[len(x.Types)-1].Name += "::in"; return api.ErrSyntax },
		func(x *api.Schema) api.Errno { x.Types[0].Parents = list("b", "a"); return api.ErrSyntax },
		func(x *api.Schema) api.Errno { x.Actions[0].Id = "\xff"; return api.ErrSyntax },
		func(x *api.Schema) api.Errno { x.Actions[0].Resources = list("a", "a"); return api.ErrSyntax },
		func(x *api.Schema) api.Errno {
			x.Types = append(x.Types, kind(x.Types[0].Name, nil))
			return api.ErrTwice
		},
		func(x *api.Schema) api.Errno {
			x.Actions = append(x.Actions, deed(x.Actions[0].Id, nil, nil))
			return api.ErrTwice
		},
		func(x *api.Schema) api.Errno { deep(&x.Types[0].Attrs); return api.ErrDepth },
		func(x *api.Schema) api.Errno {
			x.Types[len(x.Types)-1].Attrs = attrs("b,a", long)
			return api.ErrType
		},
		func(x *api.Schema) api.Errno { x.Actions[0].Context = attrs("b,a", long); return api.ErrType },
		func(x *api.Schema) api.Errno { deep(&x.Actions[len(x.Actions)-1].Context); return api.ErrDepth },
		func(x *api.Schema) api.Errno { x.Types[0].Parents = list("\U0010ffff"); return api.ErrUnknown },
		func(x *api.Schema) api.Errno {
			x.Types[0].Attrs = attrs("a", record(attr("b", never)))
			return api.ErrType
		},
		func(x *api.Schema) api.Errno {
			x.Types[len(x.Types)-1].Attrs = append(x.Types[len(x.Types)-1].Attrs, attr("\U0010ffff", set(being("None"))))
			return api.ErrUnknown
		},
		func(x *api.Schema) api.Errno { x.Actions[0].Principals = list("None"); return api.ErrUnknown },
		func(x *api.Schema) api.Errno { x.Actions[0].Context = attrs("a", set(never)); return api.ErrType },
		func(x *api.Schema) api.Errno {
			x.Actions[len(x.Actions)-1].Resources = list("Action")
			return api.ErrUnknown
		},
	}
}

// Promise 10.1 of Check, and P3: what is wrong in one way, and in several, against the chapter's words.
func TestWrongInSeveralWays(t *testing.T) {
	x := api.Schema{Types: []api.EntityType{kind("B", nil, attr("x", long)), kind("A", list("B"))}, Actions: []api.Action{deed("v", list("A"), nil), deed("w", nil, list("B"))}}
	for i, one := range spoilers() {
		var want api.Errno
		single := with(x, func(x *api.Schema) { want = one(x) })
		if want != checked(single) {
			t.Errorf("spoiler %d: the test has error %d, not %d", i, checked(single), want)
		}
		holds(t, "spoiler "+strconv.Itoa(i), single, want)
		for j, other := range spoilers() {
			both := with(single, func(x *api.Schema) { other(x) })
			holds(t, "spoilers "+strconv.Itoa(i)+", "+strconv.Itoa(j), both, checked(both))
		}
	}
	r := rand.New(rand.NewSource(101))
	tally := map[api.Errno]int{}
	for i := range 20000 {
		x := anySchema(r)
		for len(x.Actions) == 0 {
			x = anySchema(r)
		}
		for range r.Intn(4) {
			oneOf(r, spoilers()[2:])(&x)
		}
		want := checked(x)
		tally[want]++
		holds(t, "schema "+strconv.Itoa(i), x, want)
	}
	for _, why := range []api.Errno{api.OK, api.ErrSyntax, api.ErrTwice, api.ErrDepth, api.ErrType, api.ErrUnknown} {
		if tally[why] < 300 {
			t.Errorf("how often: %v", tally)
		}
	}
}

// Promise 10.1 of Check: names and TypeNevers as they are met: lists ahead of attributes, attributes from the left, types ahead of actions.
func TestWhatIsMetFirst(t *testing.T) {
	none, bad := being("None"), list("None")
	for i, x := range []struct {
		x    api.Schema
		want api.Errno
	}{
		{api.Schema{Types: []api.EntityType{kind("A", bad, attr("a", never))}}, api.ErrUnknown},
		{api.Schema{Types: []api.EntityType{kind("A", nil, attr("a", never), attr("b", none))}}, api.ErrType},
		{api.Schema{Types: []api.EntityType{kind("A", nil, attr("a", none), attr("b", never))}}, api.ErrUnknown},
		{api.Schema{Types: []api.EntityType{kind("A", nil, attr("a", set(record(attr("x", never), attr("y", none)))))}}, api.ErrType},
		{api.Schema{Types: []api.EntityType{kind("A", nil, attr("a", set(record(attr("x", none), attr("y", never)))))}}, api.ErrUnknown},
		{api.Schema{Types: []api.EntityType{kind("A", nil, attr("a", never)), kind("B", bad)}}, api.ErrType},
		{api.Schema{Types: []api.EntityType{kind("A", nil), kind("B", nil, attr("a", never))}, Actions: []api.Action{deed("a", bad, nil)}}, api.ErrType},
		{api.Schema{Types: []api.EntityType{kind("B", nil, attr("a", none))}, Actions: []api.Action{deed("a", nil, nil, attr("a", never))}}, api.ErrUnknown},
		{api.Schema{Actions: []api.Action{deed("a", bad, nil, attr("a", never))}}, api.ErrUnknown},
		{api.Schema{Actions: []api.Action{deed("a", nil, bad, attr("a", never))}}, api.ErrUnknown},
		{api.Schema{Actions: []api.Action{deed("a", nil, nil, attr("a", never)), deed("b", bad, nil)}}, api.ErrType},
		{api.Schema{Actions: []api.Action{deed("a", nil, nil, attr("a", none), attr("b", never))}}, api.ErrUnknown},
		{api.Schema{Types: []api.EntityType{kind("A", bad)}, Actions: []api.Action{deed("a", nil, nil, attr("a", nested(8, long)))}}, api.ErrDepth},
		{api.Schema{Types: []api.EntityType{kind("A", bad, attr("a", nested(8, long)))}, Actions: []api.Action{deed("a", nil, nil, attr("", long))}}, api.ErrDepth},
		{api.Schema{Types: []api.EntityType{kind("A", bad, attr("", long))}, Actions: []api.Action{deed("a", nil, nil, attr("a", nested(8, long)))}}, api.ErrType},
		{api.Schema{Types: []api.EntityType{kind("A", nil), kind("A", nil)}, Actions: []api.Action{deed("\xff", nil, nil)}}, api.ErrSyntax},
	} {
		holds(t, strconv.Itoa(i), x.x, x.want)
	}
}

// Promises 10.3 and 10.6: what is found, of schemas that are right and of others.
func TestFound(t *testing.T) {
	r := rand.New(rand.NewSource(106))
	for range 2000 {
		x := anySchema(r)
		for _, want := range x.Types {
			if got, why := schema.Type(x, want.Name); !kindsAlike(got, want) || why != api.OK {
				t.Fatalf("%q is %v, error %d", want.Name, got, why)
			}
		}
		for _, want := range x.Actions {
			if got, why := schema.Action(x, want.Id); !deedsAlike(got, want) || why != api.OK {
				t.Fatalf("%q is %v, error %d", want.Id, got, why)
			}
		}
	}
	wrong := named("A", "", "in", "A", "Action")
	wrong.Types[0].Attrs, wrong.Types[3].Parents = []api.Attr{attr("", set(long, never)), attr("", nested(20, being("")))}, list("b", "a")
	wrong.Actions = []api.Action{deed("\xff", list("b", "a"), nil), deed("", nil, nil, attrs("b,a", never)...), deed("", list("A"), nil)}
	for name, i := range map[string]int{"A": 0, "": 1, "in": 2, "Action": 4, "B": -1, "Bool": -1, "a": -1, "\xff": -1, "A ": -1} {
		got, why := schema.Type(wrong, name)
		if i < 0 && (!zero(got) || why != api.ErrUnknown) || i >= 0 && (!kindsAlike(got, wrong.Types[i]) || why != api.OK) {
			t.Errorf("%q is %v, error %d", name, got, why)
		}
	}
	for id, i := range map[string]int{"\xff": 0, "": 1, "A": -1, "v": -1} {
		got, why := schema.Action(wrong, id)
		if i < 0 && (!zero(got) || why != api.ErrUnknown) || i >= 0 && (!deedsAlike(got, wrong.Actions[i]) || why != api.OK) {
			t.Errorf("%q is %v, error %d", id, got, why)
		}
	}
	if got, why := schema.Type(api.Schema{}, ""); !zero(got) || why != api.ErrUnknown {
		t.Errorf("of none: %v, error %d", got, why)
	}
	if got, why := schema.Action(api.Schema{}, ""); !zero(got) || why != api.ErrUnknown {
		t.Errorf("of none: %v, error %d", got, why)
	}
}

// spoilNames, spoilType and spoilAttrs write over all that a list has, and over the room behind it.
func spoilNames(l []string) {
	for i := range l[:cap(l)] {
		l[:cap(l)][i] = "Spoilt"
	}
}

func spoilType(t api.Type) {
	for i := range t.Of[:cap(t.Of)] {
		spoilType(t.Of[:cap(t.Of)][i])
		t.Of[:cap(t.Of)][i] = being("Spoilt")
	}
	spoilAttrs(t.Attrs)
}

func spoilAttrs(l []api.Attr) {
	for i := range l[:cap(l)] {
		spoilType(l[:cap(l)][i].Type)
		l[:cap(l)][i] = attr("spoilt", being("Spoilt"))
	}
}

// Promise 10.4, and P3: answers are new memory, no two lists of one share any, and what is handed in is neither changed nor kept.
func TestNewMemory(t *testing.T) {
	s := `entity A in [A, B] {a: Set<{x: Long}>, b: {y: Set<A>}}; entity B in [A, B] {a: Set<{x: Long}>}; action "v" appliesTo {principal: [A, B], resource: [A, B], context: {a: Set<{x: Long}>, b: {y: Bool}}}; action "w" appliesTo {principal: [A, B], resource: [A], context: {}};`
	want, why, _ := schema.Parse(s)
	if why != api.OK {
		t.Fatal("error", why)
	}
	want = again(want)
	spoils := []func(x api.Schema){
		func(x api.Schema) { spoilNames(x.Types[0].Parents) }, func(x api.Schema) { spoilAttrs(x.Types[0].Attrs) }, func(x api.Schema) { spoilNames(x.Types[1].Parents) }, func(x api.Schema) { spoilAttrs(x.Types[1].Attrs) },
		func(x api.Schema) { spoilNames(x.Actions[0].Principals) }, func(x api.Schema) { spoilNames(x.Actions[0].Resources) }, func(x api.Schema) { spoilAttrs(x.Actions[0].Context) }, func(x api.Schema) { spoilNames(x.Actions[1].Principals) },
	}
	same := []func(x api.Schema) bool{
		func(x api.Schema) bool { return slices.Equal(x.Types[0].Parents, want.Types[0].Parents) }, func(x api.Schema) bool { return attrsAlike(x.Types[0].Attrs, want.Types[0].Attrs) }, func(x api.Schema) bool { return slices.Equal(x.Types[1].Parents, want.Types[1].Parents) }, func(x api.Schema) bool { return attrsAlike(x.Types[1].Attrs, want.Types[1].Attrs) },
		func(x api.Schema) bool { return slices.Equal(x.Actions[0].Principals, want.Actions[0].Principals) }, func(x api.Schema) bool { return slices.Equal(x.Actions[0].Resources, want.Actions[0].Resources) }, func(x api.Schema) bool { return attrsAlike(x.Actions[0].Context, want.Actions[0].Context) }, func(x api.Schema) bool { return slices.Equal(x.Actions[1].Principals, want.Actions[1].Principals) },
	}
	for i := range spoils {
		one, _, _ := schema.Parse(s)
		other, _, _ := schema.Parse(s)
		spoils[i](one)
		for j := range same {
			if j != i && !same[j](one) {
				t.Errorf("two lists of an answer share memory: those of %d and %d", i, j)
			}
		}
		if !alike(other, want) {
			t.Error("two answers share memory")
		}
	}
	x := again(want)
	kindOf, _ := schema.Type(x, "A")
	other, _ := schema.Type(x, "A")
	spoilNames(kindOf.Parents)
	spoilAttrs(kindOf.Attrs)
	action, _ := schema.Action(x, "v")
	spoilNames(action.Principals)
	if !slices.Equal(action.Resources, want.Actions[0].Resources) {
		t.Error("two lists of an action share memory")
	}
	spoilNames(action.Resources)
	spoilAttrs(action.Context)
	if !alike(x, want) || !kindsAlike(other, want.Types[0]) {
		t.Error("what is found shares memory")
	}
	action, _ = schema.Action(x, "v")
	for _, spoil := range spoils {
		spoil(x)
	}
	if !kindsAlike(other, want.Types[0]) || !deedsAlike(action, want.Actions[0]) {
		t.Error("what was handed in is kept")
	}
}

// Promise 10.4: of what is found, no two lists share memory, though those of what was handed in do.
func TestFoundListsShareNone(t *testing.T) {
	names, l := list("A", "B"), attrs("a,b", set(long))
	x := api.Schema{Types: []api.EntityType{kind("A", names, attr("x", record(l...)), attr("y", record(l...)))}, Actions: []api.Action{deed("v", names, names, attr("x", record(l...)), attr("y", record(l...)))}}
	kindOf, _ := schema.Type(x, "A")
	spoilAttrs(kindOf.Attrs[0].Type.Attrs)
	if !typesAlike(kindOf.Attrs[1].Type, record(attrs("a,b", set(long))...)) {
		t.Error("two lists of a type share memory")
	}
	action, _ := schema.Action(x, "v")
	spoilNames(action.Principals)
	spoilAttrs(action.Context[0].Type.Attrs)
	if !slices.Equal(action.Resources, list("A", "B")) || !typesAlike(action.Context[1].Type, record(attrs("a,b", set(long))...)) {
		t.Error("two lists of an action share memory")
	}
}

// P4.
func TestNoGoroutineIsLeft(t *testing.T) {
	before := runtime.NumGoroutine()
	for _, s := range []string{"entity A {};", "entity", "entity A {a: Long, a: Long};"} {
		x, _, _ := schema.Parse(s)
		schema.Check(x)
		schema.Print(x)
		schema.Type(x, "A")
		schema.Action(x, "A")
		schema.ShowType(set(long))
	}
	if after := runtime.NumGoroutine(); after > before {
		t.Errorf("%d goroutines, before %d", after, before)
	}
}
