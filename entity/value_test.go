package entity_test

import (
	"cmp"
	"math/rand"
	"strconv"
	"strings"
	"testing"

	"lictor/api"
	"lictor/entity"
	"lictor/expr"
	"lictor/value"
)

// node is an op of Kids alone.
func node(op api.Op, kids ...api.Expr) api.Expr { return api.Expr{Op: op, Kids: kids} }

// whole is a long of an expression.
func whole(n int64) api.Expr { return api.Expr{Op: api.OpLong, N: n} }

// parsed is the expression of a text.
func parsed(t *testing.T, s string) api.Expr {
	t.Helper()
	e, why, place := expr.Parse(s)
	if why != api.OK {
		t.Fatalf("%q: error %d at %d", s, why, place)
	}
	return e
}

// isConstant tells whether an expression is a constant, and whether it is a long, as chapter 11's words have it.
func isConstant(e api.Expr) (constant, long bool) {
	all, longs := true, true
	for _, k := range e.Kids {
		constant, long := isConstant(k)
		all, longs = all && constant, longs && long
	}
	switch e.Op {
	case api.OpBool, api.OpString, api.OpEntity:
		return true, false
	case api.OpLong:
		return true, true
	case api.OpSet, api.OpRecord:
		return all, false
	case api.OpNeg, api.OpSub:
		return all && longs, all && longs
	}
	return false, false
}

// saidBy is what a constant says, as chapter 11's words have it.
func saidBy(e api.Expr) (api.Value, api.Errno) {
	parts, first := []api.Value{}, api.OK
	for _, k := range e.Kids {
		v, why := saidBy(k)
		parts, first = append(parts, v), cmp.Or(first, why)
	}
	if first != api.OK {
		return api.Value{}, first
	}
	switch e.Op {
	case api.OpBool:
		return boolean(e.N != 0), api.OK
	case api.OpString:
		return text(e.S), api.OK
	case api.OpEntity:
		return being(e.T, e.S), api.OK
	case api.OpSet:
		return value.Set(parts)
	case api.OpRecord:
		return value.Record(e.Names, parts)
	case api.OpLong:
		return long(e.N), api.OK
	}
	n, why := value.Sum('-', append([]api.Value{long(0)}, parts...)[len(parts)-1].N, parts[len(parts)-1].N)
	if why != api.OK {
		return api.Value{}, why
	}
	return long(n), api.OK
}

// Promise 11.1 of Value, and words: constants, and what they say.
func TestValue(t *testing.T) {
	least := int64(-1 << 63)
	for s, want := range map[string]api.Value{
		`true`: boolean(true), `false`: boolean(false), `0`: long(0), `7`: long(7), `9223372036854775807`: long(1<<63 - 1), `"a\n"`: text("a\n"), `""`: text(""), `"\*"`: text(`\*`), `A::B::"x"`: being("A::B", "x"),
		`-7`: long(-7), `- -7`: long(7), `-0`: long(0), `-9223372036854775807 - 1`: long(least), `5 - 7`: long(-2), `5 - 7 - 1`: long(-3), `5 - (7 - 1)`: long(-1), `-(5 - 7)`: long(2), `-5 - -7`: long(2), `0 - 9223372036854775807`: long(-1<<63 + 1), `(5)`: long(5), `-(-9223372036854775807)`: long(1<<63 - 1),
		`[]`: set(), `[1]`: set(long(1)), `[2, 1, 2, 3 - 2]`: set(long(1), long(2)), `["b", 1, true, false, A::"b", [], {}, A::"a"]`: set(boolean(false), boolean(true), long(1), text("b"), being("A", "a"), being("A", "b"), set(), record("")), `[[2, 1], [1, 2]]`: set(set(long(1), long(2))),
		`{}`: record(""), `{b: 1, a: -2}`: record("a,b", long(-2), long(1)), `{"x y": {c: []}, b: A::"x"}`: record("b,x y", being("A", "x"), record("c", set())), `{a: 1}`: record("a", long(1)), `({a: 1})`: record("a", long(1)),
		`{a: [[[[[[1]]]]]]}`: record("a", nested(7)), `[1,2,3,4,5,6,7,8,9,10,11,12,13,14,15,16]`: set(long(1), long(2), long(3), long(4), long(5), long(6), long(7), long(8), long(9), long(10), long(11), long(12), long(13), long(14), long(15), long(16)),
	} {
		if v, why := entity.Value(parsed(t, s)); !valuesAlike(v, want) || why != api.OK {
			t.Errorf("%s is %v, error %d; not %v", s, v, why, want)
		}
	}
}

// Promise 11.1 of Value: what is no constant, wherever it stands; it goes ahead of what a constant's parts say.
func TestValueOfNoConstants(t *testing.T) {
	for _, s := range []string{
		`principal`, `context`, `[resource]`, `{a: action}`, `{a: {b: [1, context]}}`, `principal.a`, `{a: 1}.a`, `{a: 1} has a`, `A::"x" is A`, `"a" like "a"`, `!true`, `!false`, `if true then 1 else 2`, `true && true`, `true || false`, `1 == 1`, `1 != 1`, `1 < 2`, `1 <= 2`, `1 > 2`, `1 >= 2`, `A::"x" in A::"x"`, `1 + 1`, `2 * 2`, `[1].contains(1)`, `[1].containsAll([1])`, `[1].containsAny([1])`,
		`-true`, `-"a"`, `-[]`, `-[1]`, `-A::"x"`, `-{}`, `1 - true`, `true - 1`, `"a" - "b"`, `[1] - [1]`, `-(1 + 1)`, `1 - (1 * 1)`, `1 - 1 + 1`, `-(-true)`, `-principal`, `1 - principal`, `[1, -"a"]`, `{a: 1 - "a"}`, `-(if true then 1 else 2)`,
		`[-9223372036854775807 - 2, principal]`, `[[[[[[[[[1]]]]]]]], 1 + 1]`, `[-9223372036854775807 - 2, -true]`,
	} {
		if v, why := entity.Value(parsed(t, s)); !zero(v) || why != api.ErrType {
			t.Errorf("%s is %v, error %d", s, v, why)
		}
	}
}

// Promise 11.1 of Value: the first error of what a constant says, its parts from the left ahead of it.
func TestValueOfWhatIsTooMuch(t *testing.T) {
	over, deep := `-9223372036854775807 - 2`, `[[[[[[[[1]]]]]]]]`
	for s, want := range map[string]api.Errno{
		over: api.ErrOver, `-(-9223372036854775807 - 1)`: api.ErrOver, `0 - (-9223372036854775807 - 1)`: api.ErrOver, `1 - (-9223372036854775807)`: api.ErrOver, `-1 - 9223372036854775807`: api.OK, `-2 - 9223372036854775807`: api.ErrOver, `-(-2 - 9223372036854775807)`: api.ErrOver,
		deep: api.ErrDepth, `{a: [[[[[[[1]]]]]]]}`: api.ErrDepth, `[[[[[[[[]]]]]]]]`: api.OK, `[[[[[[[[[]]]]]]]]]`: api.ErrDepth, `{a: {b: {c: {d: {e: {f: {g: {}}}}}}}}`: api.OK, `{a: {b: {c: {d: {e: {f: {g: {h: {}}}}}}}}}`: api.ErrDepth,
		`[` + deep + `, ` + over + `]`: api.ErrDepth, `[` + over + `, ` + deep + `]`: api.ErrOver, `{b: ` + over + `, a: ` + deep + `}`: api.ErrOver, `{b: ` + deep + `, a: ` + over + `}`: api.ErrDepth, `[[` + over + `], ` + deep + `]`: api.ErrOver, `[[[[[[[[` + over + `]]]]]]]]`: api.ErrOver,
	} {
		e := parsed(t, s)
		if v, why := entity.Value(e); why != want || zero(v) != (want != api.OK) {
			t.Errorf("%s is %v, error %d, not %d", s, v, why, want)
		}
	}
}

// Promise 11.1 of Value: expr.Check's error goes ahead of all else.
func TestValueOfWrongExpressions(t *testing.T) {
	deep, wide := whole(1), node(api.OpSet)
	for range 16 {
		deep = node(api.OpSet, deep)
		wide.Kids = append(wide.Kids, node(api.OpSet, whole(1), whole(2), whole(3), whole(4), whole(5), whole(6), whole(7)))
	}
	for _, x := range []struct {
		name string
		e    api.Expr
		want api.Errno
	}{
		{"none", api.Expr{}, api.ErrSyntax}, {"a kind that is none", node(api.OpCount), api.ErrSyntax}, {"a long below 0", whole(-1), api.ErrSyntax}, {"a bool that is none", api.Expr{Op: api.OpBool, N: 2}, api.ErrSyntax}, {"a long with a text", api.Expr{Op: api.OpLong, S: "a"}, api.ErrSyntax}, {"no Kid", node(api.OpNeg), api.ErrSyntax}, {"a Kid too many", node(api.OpNeg, whole(1), whole(2)), api.ErrSyntax}, {"one of two", node(api.OpSub, whole(1)), api.ErrSyntax}, {"a name too few", node(api.OpRecord, whole(1)), api.ErrSyntax},
		{"wrong, and no constant", node(api.OpAdd, whole(1)), api.ErrSyntax}, {"a name there twice", api.Expr{Op: api.OpRecord, Names: []string{"a", "a"}, Kids: []api.Expr{whole(1), whole(2)}}, api.ErrSyntax}, {"an Id that is too long", api.Expr{Op: api.OpEntity, T: "A", S: strings.Repeat("i", 65)}, api.ErrSyntax}, {"a text that is too long", api.Expr{Op: api.OpString, S: strings.Repeat("i", 257)}, api.ErrSyntax}, {"a text at its limit", api.Expr{Op: api.OpString, S: strings.Repeat("i", 256)}, api.OK},
		{"too deep", deep, api.ErrDepth}, {"as deep as an expression may be", deep.Kids[0], api.ErrDepth}, {"too deep, and no constant", node(api.OpNot, deep), api.ErrDepth}, {"too many nodes", wide, api.ErrMany}, {"as many nodes as may be", node(api.OpSet, append(wide.Kids[:15:15], node(api.OpSet, whole(1), whole(2), whole(3), whole(4), whole(5), whole(6)))...), api.OK}, {"too many nodes, and no constant", node(api.OpNot, wide), api.ErrMany},
	} {
		if v, why := entity.Value(x.e); why != x.want || zero(v) != (x.want != api.OK) {
			t.Errorf("%s: %v, error %d, not %d", x.name, v, why, x.want)
		}
	}
}

// anyConstant is an expression by chance, most often a constant.
func anyConstant(r *rand.Rand, deep int) api.Expr {
	if deep <= 1 || r.Intn(5) == 0 {
		return oneOf(r, []api.Expr{{Op: api.OpBool, N: 1}, {Op: api.OpBool}, whole(0), whole(3), whole(4), whole(1<<63 - 1), {Op: api.OpString, S: "a"}, {Op: api.OpEntity, T: "A", S: "x"}, node(api.OpSet), node(api.OpRecord)})
	}
	kid := func() api.Expr { return anyConstant(r, deep-1) }
	number := func() api.Expr {
		if r.Intn(3) == 0 {
			return whole(oneOf(r, []int64{0, 5, 1<<63 - 1}))
		}
		return oneOf(r, []api.Expr{node(api.OpNeg, whole(1<<63-1)), node(api.OpSub, node(api.OpNeg, whole(5)), whole(1<<63-7)), node(api.OpSub, whole(1), whole(2)), node(api.OpNeg, node(api.OpNeg, whole(3)))})
	}
	switch r.Intn(40) {
	case 0:
		return api.Expr{Op: api.OpVar, S: "context"}
	case 1:
		return node(oneOf(r, []api.Op{api.OpAdd, api.OpMul, api.OpEqual, api.OpAnd, api.OpContains}), kid(), kid())
	case 2:
		return node(oneOf(r, []api.Op{api.OpNot, api.OpNeg}), kid())
	case 3:
		return node(api.OpSub, kid(), kid())
	case 4, 5, 6, 7, 8:
		return node(api.OpNeg, number())
	case 9, 10, 11, 12, 13:
		return node(api.OpSub, number(), number())
	case 14, 15, 16, 17, 18, 19, 20, 21, 22, 23:
		return api.Expr{Op: api.OpRecord, Names: oneOf(r, [][]string{{"b", "a"}, {"a", "x y"}, {"in", "é"}}), Kids: []api.Expr{kid(), kid()}}
	}
	return node(api.OpSet, kid(), kid(), kid())
}

// Promise 11.1 of Value: expressions by chance, against the words.
func TestValueByChance(t *testing.T) {
	r := rand.New(rand.NewSource(111))
	seen := map[api.Errno]int{}
	for range 40000 {
		e := anyConstant(r, 1+r.Intn(6))
		for range r.Intn(3) * r.Intn(6) {
			e = node(api.OpSet, e)
		}
		want, reason := api.Value{}, api.ErrType
		if why := expr.Check(e); why != api.OK {
			reason = why
		} else if constant, _ := isConstant(e); constant {
			want, reason = saidBy(e)
		}
		seen[reason]++
		if v, why := entity.Value(e); !valuesAlike(v, want) || why != reason {
			t.Fatalf("%v is %v, error %d; not %v, error %d", e, v, why, want, reason)
		}
	}
	for _, why := range []api.Errno{api.OK, api.ErrType, api.ErrOver, api.ErrDepth, api.ErrMany} {
		if seen[why] < 20 {
			t.Errorf("error %d comes %d times", why, seen[why])
		}
	}
}

// Promise 11.1 of ShowValue: each kind, and how it is written.
func TestShowValue(t *testing.T) {
	long64 := strings.Repeat("n", 64)
	for _, x := range []struct {
		v    api.Value
		want string
	}{
		{api.Value{}, `false`}, {boolean(true), `true`}, {boolean(false), `false`}, {long(0), `0`}, {long(7), `7`}, {long(-7), `-7`}, {long(-1), `-1`}, {long(1<<63 - 1), `9223372036854775807`}, {long(1 - 1<<63), `-9223372036854775807`}, {long(-1 << 63), `(-9223372036854775807 - 1)`},
		{text(""), `""`}, {text(`a"b`), `"a\"b"`}, {text("\n\t\x00"), `"\n\t\0"`}, {text(`\`), `"\\"`}, {text(`\*`), `"\*"`}, {text(`*`), `"*"`}, {text("é\r"), "\"é\r\""}, {being("User", "a"), `User::"a"`}, {being("A::B", "\n"), `A::B::"\n"`}, {being("A", ""), `A::""`},
		{set(), `[]`}, {set(long(1)), `[1]`}, {set(long(-1<<63), long(-2), long(3)), `[(-9223372036854775807 - 1), -2, 3]`}, {set(boolean(false), text("a"), being("U", "b"), set(set()), record("")), `[false, "a", U::"b", [[]], {}]`},
		{record(""), `{}`}, {record("a", long(1)), `{a: 1}`}, {record("a,x y", text("v"), text("w")), `{a: "v", "x y": "w"}`}, {record("B,_,a1,é", long(1), long(2), long(3), long(4)), `{B: 1, _: 2, a1: 3, "é": 4}`}, {record("1a,in,true,when", long(1), long(2), long(3), long(4)), `{"1a": 1, "in": 2, "true": 3, "when": 4}`}, {record("contains", record("a", set(long(1), long(2)))), `{contains: {a: [1, 2]}}`}, {record("\n,\"", long(1), long(2)), `{"\n": 1, "\"": 2}`}, {record("a::b", long(1)), `{"a::b": 1}`}, {record(long64, long(-1<<63)), `{` + long64 + `: (-9223372036854775807 - 1)}`},
	} {
		if s, why := entity.ShowValue(x.v); s != x.want || why != api.OK {
			t.Errorf("%v: %q, error %d; not %q", x.v, s, why, x.want)
		}
	}
}

// Promise 11.1 of ShowValue, and P2: value.Check's error.
func TestShowValueOfWrongOnes(t *testing.T) {
	for _, x := range []struct {
		v    api.Value
		want api.Errno
	}{
		{api.Value{Kind: api.KindCount}, api.ErrType}, {api.Value{Kind: 255}, api.ErrType}, {text("\xff"), api.ErrType}, {text(strings.Repeat("a", 257)), api.ErrType}, {being("in", "a"), api.ErrType}, {being("A", strings.Repeat("a", 65)), api.ErrType}, {set(long(2), long(1)), api.ErrType}, {set(long(1), long(1)), api.ErrType}, {record("a"), api.ErrType}, {record("b,a", long(1), long(2)), api.ErrType}, {record(strings.Repeat("n", 65), long(1)), api.ErrType}, {api.Value{Kind: api.KindLong, B: true}, api.ErrType}, {set(set(text("\xff"))), api.ErrType}, {nested(8), api.OK}, {nested(9), api.ErrDepth}, {wide(128), api.OK}, {wide(129), api.ErrMany},
	} {
		if s, why := entity.ShowValue(x.v); why != x.want || (s == "") != (why != api.OK) {
			t.Errorf("%v: %q, error %d, not %d", x.v, s, why, x.want)
		}
	}
}

// shownBack holds what is read of what ShowValue writes against the value, and tells how that ended. That some values have more nodes in a text than parts, as a sign is one, lets texts be none that are not too long.
func shownBack(t *testing.T, v api.Value) api.Errno {
	t.Helper()
	s, why := entity.ShowValue(v)
	if why != api.OK {
		t.Fatalf("%.200v: error %d", v, why)
	}
	e, why, _ := expr.Parse(s)
	if why != api.OK {
		if len(s) > 2048 != (why == api.ErrLong) || why != api.ErrLong && (why != api.ErrMany || strings.Count(s, "-") < 10) {
			t.Fatalf("%q: error %d", s, why)
		}
		return why
	}
	if again, _ := expr.Print(e); again != s {
		t.Fatalf("%q: expr.Print has it %q", s, again)
	}
	if got, why := entity.Value(e); !valuesAlike(got, v) || why != api.OK {
		t.Fatalf("%v is shown %q, is %v, error %d", v, s, got, why)
	}
	return api.OK
}

// Promise 11.5, and P5: right values are what is read of what is shown of them.
func TestValuesThereAndBack(t *testing.T) {
	r := rand.New(rand.NewSource(115))
	seen := map[api.Errno]int{}
	for range 20000 {
		if v := anyValue(r, 1+r.Intn(8)); value.Check(v) == api.OK {
			seen[shownBack(t, v)]++
		}
	}
	for parts := 100; parts <= 128; parts++ {
		shownBack(t, wide(parts))
	}
	for n := range 100 {
		seen[shownBack(t, set(text(strings.Repeat("\t", 206+n/2)), text(strings.Repeat("\n", 255)), text(strings.Repeat("\n", 256)), text(strings.Repeat("\n\"", 127)+"\n")))]++
	}
	shownBack(t, nested(8))
	below := record("")
	for i := range 10 {
		part := set()
		for n := range 11 {
			part.List = append(part.List, long(int64(n)-11))
		}
		below.Names, below.List = append(below.Names, "n"+strconv.Itoa(i)), append(below.List, part)
	}
	if why := shownBack(t, below); why != api.ErrMany {
		t.Errorf("110 longs below 0: error %d", why)
	}
	if seen[api.OK] < 10000 || seen[api.ErrLong] < 5 {
		t.Errorf("%d values are not too long, %d are", seen[api.OK], seen[api.ErrLong])
	}
}

// Promise 11.4: what is said of an expression shares no memory with it, or within itself.
func TestValuesAreNewMemory(t *testing.T) {
	inner := api.Expr{Op: api.OpRecord, Names: []string{"a", "b"}, Kids: []api.Expr{node(api.OpSet, whole(1)), whole(2)}}
	e := api.Expr{Op: api.OpRecord, Names: []string{"x", "y"}, Kids: []api.Expr{inner, inner}}
	first, _ := entity.Value(e)
	second, why := entity.Value(e)
	want := valueAgain(second)
	spoilValue(first.List[0])
	if !valuesAlike(first.List[1], want.List[1]) || why != api.OK {
		t.Error("two lists of an answer share memory")
	}
	spoilValue(first)
	if s, _ := expr.Print(e); !valuesAlike(second, want) || s != `{x: {a: [1], b: 2}, y: {a: [1], b: 2}}` {
		t.Error("an answer shares memory, or what was handed in is changed")
	}
	clear(inner.Names)
	clear(e.Names)
	if !valuesAlike(second, want) {
		t.Error("what was handed in is kept")
	}
}
