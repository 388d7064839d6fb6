package value_test

import (
	"maps"
	"math"
	"math/rand"
	"reflect"
	"runtime"
	"slices"
	"strconv"
	"strings"
	"testing"
	"unicode/utf8"

	"lictor/api"
	"lictor/value"
)

func boolean(b bool) api.Value { return api.Value{Kind: api.KindBool, B: b} }

func long(n int64) api.Value { return api.Value{Kind: api.KindLong, N: n} }

func text(s string) api.Value { return api.Value{Kind: api.KindString, S: s} }

func being(kind, id string) api.Value { return api.Value{Kind: api.KindEntity, T: kind, S: id} }

// set is one of parts as they stand.
func set(parts ...api.Value) api.Value { return api.Value{Kind: api.KindSet, List: parts} }

// record is one of names with commas between, and parts, as they stand.
func record(names string, parts ...api.Value) api.Value {
	v := api.Value{Kind: api.KindRecord, List: parts}
	if names != "" {
		v.Names = strings.Split(names, ",")
	}
	return v
}

// with is v, changed.
func with(v api.Value, change func(v *api.Value)) api.Value {
	change(&v)
	return v
}

// numbers are n longs in order.
func numbers(n int) []api.Value {
	out := make([]api.Value, n)
	for i := range out {
		out[i] = long(int64(i) - 3)
	}
	return out
}

// letters are n names in order, with commas between.
func letters(n int) string {
	return strings.Join(strings.Split("abcdefghijklmnopqrstuvwxyz"[:n], ""), ",")
}

// nested is a bool within so many sets and records, in turn.
func nested(deep int) api.Value {
	v := boolean(true)
	for i := 1; i < deep; i++ {
		if i%2 == 0 {
			v = set(v)
		} else {
			v = record("a", v)
		}
	}
	return v
}

// wide is a record of records of longs that has so many parts in all, from 20 to 200.
func wide(parts int) api.Value {
	n := 12
	v := record(letters(n))
	rest := parts - 1 - n
	for i := range n {
		take := rest / (n - i)
		rest -= take
		v.List = append(v.List, record(letters(take), numbers(take)...))
	}
	return v
}

// count is how many parts a value has.
func count(v api.Value) int {
	n := 1
	for _, p := range v.List {
		n += count(p)
	}
	return n
}

// alike tells whether two values are the same; nil and empty lists are.
func alike(a, b api.Value) bool {
	return a.Kind == b.Kind && a.B == b.B && a.N == b.N && a.S == b.S && a.T == b.T && slices.Equal(a.Names, b.Names) && slices.EqualFunc(a.List, b.List, alike)
}

// again is the same value in memory of its own.
func again(v api.Value) api.Value {
	v.Names, v.List = slices.Clone(v.Names), slices.Clone(v.List)
	for i := range v.List {
		v.List[i] = again(v.List[i])
	}
	return v
}

// rows has the same values in memory of its own.
func rows(l []api.Value) []api.Value {
	return again(set(l...)).List
}

// zero tells whether a value is the zero one.
func zero(v api.Value) bool {
	return reflect.ValueOf(v).IsZero()
}

// rightOnes are right values, each below the next one.
func rightOnes() []api.Value {
	return []api.Value{
		boolean(false), boolean(true),
		long(math.MinInt64), long(-2), long(-1), long(0), long(1), long(10), long(math.MaxInt64),
		text(""), text("\x00"), text("a"), text("a\x00"), text("aa"), text("b"), text("é"), text(strings.Repeat("é", 128)), text("\U0010ffff"),
		being("A", ""), being("A", "z"), being("A0", "a"), being("A::B", "a"), being("A::B", "b"), being("AA", ""), being("B", "a"),
		set(), set(boolean(false)), set(boolean(false), boolean(true)), set(boolean(true)), set(long(1)), set(long(1), long(2)), set(long(1), long(3)), set(long(2)), set(text("")), set(being("A", "")), set(set()), set(set(), set(long(1))), set(set(long(1))), set(record("")),
		record(""), record("\x00", long(9)), record("a", boolean(true)), record("a", long(1)), record("a,b", long(1), boolean(true)), record("a,b", long(1), long(5)), record("a,c", long(1), long(0)), record("a", long(2)), record("a,b", long(3), long(0)), record("aa", boolean(false)), record("b", boolean(false)), record("in", boolean(false)), record("z,é", set(), set(set())),
	}
}

// The sections Limits and Errors, as far as they speak of value.
func TestLimitsAndErrors(t *testing.T) {
	if api.MaxId != 64 || api.MaxString != 256 || api.MaxNest != 8 || api.MaxNodes != 128 || api.MaxParts != 16 {
		t.Error("a limit is another one")
	}
	if api.OK != 0 || api.ErrRange != 1 || api.ErrMany != 2 || api.ErrLong != 3 || api.ErrDepth != 4 || api.ErrSyntax != 5 || api.ErrUtf != 6 || api.ErrType != 7 || api.ErrMissing != 8 || api.ErrTwice != 10 || api.ErrOver != 11 {
		t.Error("an error's number is another one")
	}
	if api.KindBool != 0 || api.KindLong != 1 || api.KindString != 2 || api.KindEntity != 3 || api.KindSet != 4 || api.KindRecord != 5 || api.KindCount != 6 {
		t.Error("a kind's number is another one")
	}
}

// Promise 6.1 of Check: right values, those at each limit among them; nil and empty lists are alike.
func TestRightValues(t *testing.T) {
	all := append(rightOnes(),
		text(strings.Repeat("x", 256)),
		being(strings.Repeat("T", 64), strings.Repeat("i", 64)),
		set(numbers(16)...),
		record(letters(16), numbers(16)...),
		record("a,"+strings.Repeat("n", 64), long(1), long(2)),
		record("true,\xc3\xa9,\U0010ffff", long(1), long(2), long(3)),
		nested(8),
		wide(128),
		set(nested(7), record("a", set(record("a", set(record("a,b", set(), set())))))),
	)
	for _, v := range all {
		if why := value.Check(v); why != api.OK {
			t.Errorf("%v: error %d", v, why)
		}
		v.Names, v.List = slices.Concat([]string{}, v.Names), slices.Concat([]api.Value{}, v.List)
		if v.Names == nil {
			v.Names = []string{}
		}
		if v.List == nil {
			v.List = []api.Value{}
		}
		if why := value.Check(v); why != api.OK {
			t.Errorf("%v, with empty lists: error %d", v, why)
		}
	}
}

// wrongOnes are values of which something is not right.
func wrongOnes() map[string]api.Value {
	out := map[string]api.Value{
		"kind 6":                        {Kind: api.KindCount},
		"kind 255":                      {Kind: 255},
		"a string too long":             text(strings.Repeat("x", 257)),
		"a string no UTF-8":             text("a\xff"),
		"half a rune":                   text("\xc3"),
		"a surrogate":                   text("\xed\xa0\x80"),
		"an entity without a type":      being("", "a"),
		"an entity of a word":           being("in", "a"),
		"an entity of no type's name":   being("A::", "a"),
		"an id too long":                being("A", strings.Repeat("i", 65)),
		"an id no UTF-8":                being("A", "\xff"),
		"a set not in order":            set(long(2), long(1)),
		"a set with one twice":          set(long(1), long(1)),
		"a set with one twice, later":   set(long(1), long(2), long(2)),
		"a set, kinds not in order":     set(text("a"), long(1)),
		"a set of 17":                   set(numbers(17)...),
		"a set of very many":            set(numbers(1 << 16)...),
		"a set with a wrong part":       set(long(1), text("\xff")),
		"records in a set not in order": set(record("b", long(1)), record("a", long(1))),
		"a name without a part":         record("a"),
		"a part without a name":         record("", long(1)),
		"a name too many":               record("a,b", long(1)),
		"a part too many":               record("a", long(1), long(2)),
		"names not in order":            record("b,a", long(1), long(2)),
		"a name twice":                  record("a,a", long(1), long(2)),
		"a name without bytes":          {Kind: api.KindRecord, Names: []string{""}, List: numbers(1)},
		"a name too long":               record(strings.Repeat("n", 65), long(1)),
		"a name no UTF-8":               record("\xff", long(1)),
		"a second name no UTF-8":        record("a,b\x80", long(1), long(2)),
		"a record of 17":                record(letters(17), numbers(17)...),
		"a record with a wrong part":    record("a,b", long(1), set(long(2), long(1))),
		"a wrong part far within":       set(record("a", set(record("a", being("1", ""))))),
		"wrong, too deep":               set(nested(20), set(long(1), long(1))),
		"wrong within what is too deep": with(nested(9), func(v *api.Value) { v.List = []api.Value{set(nested(20), text("\xff"))} }),
		"wrong, too many parts":         with(wide(190), func(v *api.Value) { v.List[11] = text("\xff") }),
	}
	// One field of each that the kind has not.
	kinds := []api.Value{boolean(true), long(1), text("a"), being("A", "a"), set(long(1)), record("a", long(1))}
	fields := map[string]func(v *api.Value){
		"B":     func(v *api.Value) { v.B = true },
		"N":     func(v *api.Value) { v.N = -1 },
		"S":     func(v *api.Value) { v.S = "s" },
		"T":     func(v *api.Value) { v.T = "T" },
		"Names": func(v *api.Value) { v.Names = []string{"a"} },
		"List":  func(v *api.Value) { v.List = numbers(1) },
	}
	own := []string{"B", "N", "S", "T S", "List", "Names List"}
	for i, v := range kinds {
		for name, change := range fields {
			if !strings.Contains(" "+own[i]+" ", " "+name+" ") {
				out["kind "+strconv.Itoa(i)+" with "+name] = with(v, change)
			}
		}
	}
	return out
}

// Promise 6.1 of Check: ErrType, if something is not right, whatever else there is.
func TestValuesThatAreNotRight(t *testing.T) {
	for name, v := range wrongOnes() {
		for _, w := range []api.Value{v, set(v), record("a", v), record("a,b", long(1), set(v))} {
			if why := value.Check(w); why != api.ErrType {
				t.Errorf("%s: error %d", name, why)
			}
		}
	}
}

// Promise 6.1 of Check: what is only too deep, or has only too many parts; the depth ahead of the parts.
func TestTooDeepAndTooMany(t *testing.T) {
	for parts := 100; parts < 190; parts++ {
		if n := count(wide(parts)); n != parts {
			t.Fatalf("%d parts, not %d", n, parts)
		}
		want := api.OK
		if parts > 128 {
			want = api.ErrMany
		}
		if why := value.Check(wide(parts)); why != want {
			t.Errorf("%d parts: error %d", parts, why)
		}
	}
	for deep := 1; deep < 20; deep++ {
		want := api.OK
		if deep > 8 {
			want = api.ErrDepth
		}
		if why := value.Check(nested(deep)); why != want {
			t.Errorf("%d deep: error %d", deep, why)
		}
		// An empty set is nested 1 deep, as a bool is.
		v := set()
		for range deep - 1 {
			v = set(v)
		}
		if why := value.Check(v); why != want {
			t.Errorf("%d sets: error %d", deep, why)
		}
		both := with(wide(150), func(v *api.Value) { v.List[11] = nested(deep) })
		want = api.ErrMany
		if deep > 7 {
			want = api.ErrDepth
		}
		if why := value.Check(both); why != want {
			t.Errorf("too many parts, one of them %d deep: error %d", deep, why)
		}
	}
	if why := value.Check(nested(129)); why != api.ErrDepth {
		t.Errorf("too deep, and too many parts: error %d", why)
	}
}

// Words, promises 6.1 of Compare and 6.4: all pairs of values that are in order.
func TestCompare(t *testing.T) {
	all := rightOnes()
	for i, a := range all {
		for j, b := range all {
			want := min(1, max(-1, i-j))
			if c := value.Compare(a, again(b)); c != want {
				t.Errorf("Compare of %v and %v is %d, not %d", a, b, c, want)
			}
		}
	}
}

// Promise 6.1 of Compare: values that are not right, lists of unlike lengths among them.
func TestCompareWhateverTheyAre(t *testing.T) {
	named := func(names string, parts ...api.Value) api.Value {
		return with(record(names, parts...), func(v *api.Value) { v.Kind = api.KindSet })
	}
	for _, x := range []struct {
		name string
		a, b api.Value
		want int
	}{
		{"kinds that are none", api.Value{Kind: 6, N: 5}, api.Value{Kind: 7}, -1},
		{"a record and a kind that is none", record("z", long(1)), api.Value{Kind: 255}, -1},
		{"of one kind that is none", api.Value{Kind: 6}, api.Value{Kind: 6}, 0},
		{"fields that the kind has not", with(long(1), func(v *api.Value) { v.B, v.S, v.T = true, "z", "z" }), long(1), 0},
		{"bytes no UTF-8", text("\xfe"), text("\xff"), -1},
		{"entities, the type first", being("1", "z"), being("2", "a"), -1},
		{"a name too many", record("a,b", long(1)), record("a", long(1)), 0},
		{"names without parts", record("a"), record("b"), 0},
		{"names behind the parts", record("a,b", long(1)), record("a,c", long(1)), 0},
		{"a name ahead of its part", record("a", long(2)), record("b", long(1)), -1},
		{"the first part ahead of the second name", record("a,b", long(2), long(0)), record("a,c", long(1), long(0)), 1},
		{"no names", record("", long(1), long(2)), record("", long(1), long(3)), -1},
		{"names of one alone", record("z", long(1)), record("", long(2)), -1},
		{"names of both at the first place alone", record("a", long(1), long(2)), record("a,b", long(1), long(1)), 1},
		{"names of both, of unlike lengths", record("b", long(1), long(2)), record("a,c", long(1), long(2)), 1},
		{"fewer parts", record("a,b", long(1)), record("a,b", long(1), long(0)), -1},
		{"sets that have names", named("a", long(2)), named("b", long(1)), -1},
		{"sets of which one has names", named("z", long(1)), set(long(2)), -1},
		{"sets not in order", set(long(2), long(1)), set(long(1), long(2)), 1},
		{"sets with one twice", set(long(1), long(1)), set(long(1)), 1},
		{"very deep", nested(1 << 16), nested(1 << 16), 0},
		{"deeper", set(nested(1 << 15)), set(nested(1<<15 - 2)), 1},
	} {
		if c := value.Compare(x.a, x.b); c != x.want {
			t.Errorf("%s: %d, not %d", x.name, c, x.want)
		}
		if c := value.Compare(x.b, x.a); c != -x.want {
			t.Errorf("%s, turned round: %d, not %d", x.name, c, -x.want)
		}
	}
}

// some is a right value with few parts, of which many are alike.
func some(r *rand.Rand, deep int) api.Value {
	kinds := 6
	if deep <= 1 {
		kinds = 4
	}
	switch r.Intn(kinds) {
	case 0:
		return boolean(r.Intn(2) == 0)
	case 1:
		return long(int64(r.Intn(3)))
	case 2:
		return text([]string{"", "a", "b"}[r.Intn(3)])
	case 3:
		return being([]string{"A", "B"}[r.Intn(2)], []string{"", "a"}[r.Intn(2)])
	case 4:
		v := set()
		for range r.Intn(4) {
			p := some(r, deep-1)
			at, there := slices.BinarySearchFunc(v.List, p, value.Compare)
			if !there {
				v.List = slices.Insert(v.List, at, p)
			}
		}
		return v
	}
	v := record("")
	for _, name := range []string{"a", "b", "c"} {
		if r.Intn(2) == 0 {
			v.Names, v.List = append(v.Names, name), append(v.List, some(r, deep-1))
		}
	}
	return v
}

// Promise 6.4: of right values.
func TestTheOrderOfManyValues(t *testing.T) {
	r := rand.New(rand.NewSource(64))
	all := rightOnes()
	for range 400 {
		all = append(all, some(r, 3))
	}
	for i, a := range all {
		if why := value.Check(a); why != api.OK {
			t.Fatalf("%v: error %d", a, why)
		}
		for _, b := range all[:i+1] {
			c := value.Compare(a, b)
			if c != -value.Compare(b, a) || (c == 0) != alike(a, b) || c < -1 || c > 1 {
				t.Fatalf("Compare of %v and %v is %d", a, b, c)
			}
		}
	}
	for range 200000 {
		a, b, c := all[r.Intn(len(all))], all[r.Intn(len(all))], all[r.Intn(len(all))]
		if value.Compare(a, b) <= 0 && value.Compare(b, c) <= 0 && value.Compare(a, c) > 0 {
			t.Fatalf("%v, %v, %v", a, b, c)
		}
	}
}

// made is a right value of an answer.
func made(t *testing.T, name string, v api.Value, why api.Errno) api.Value {
	t.Helper()
	if why != api.OK {
		t.Fatalf("%s: error %d", name, why)
	}
	if why := value.Check(v); why != api.OK {
		t.Fatalf("%s: %v is not right: error %d", name, v, why)
	}
	return v
}

// Promise 6.2 of Set, and example 1.
func TestSet(t *testing.T) {
	for _, x := range []struct {
		name string
		l    []api.Value
		want api.Value
	}{
		{"nothing", nil, set()},
		{"an empty list", []api.Value{}, set()},
		{"2, 1, 2", []api.Value{long(2), long(1), long(2)}, set(long(1), long(2))},
		{"one", []api.Value{text("a")}, set(text("a"))},
		{"one, often", slices.Repeat([]api.Value{boolean(true)}, 1000), set(boolean(true))},
		{"of all kinds", []api.Value{record("a", long(1)), set(), being("A", "a"), text("a"), long(1), boolean(true)}, set(boolean(true), long(1), text("a"), being("A", "a"), set(), record("a", long(1)))},
		{"as many as may be, each twice", slices.Concat(numbers(16), numbers(16)), set(numbers(16)...)},
		{"sets and records, some alike", []api.Value{set(long(1)), record("a", long(1)), set(long(1)), set(), record("a", long(1)), record("")}, set(set(), set(long(1)), record(""), record("a", long(1)))},
		{"empty sets, of no list and of an empty one", []api.Value{set(), {Kind: api.KindSet, Names: []string{}, List: []api.Value{}}}, set(set())},
		{"as deep as may be", []api.Value{nested(7), nested(7), nested(1)}, set(nested(1), nested(7))},
	} {
		v, why := value.Set(x.l)
		if v = made(t, x.name, v, why); !alike(v, x.want) {
			t.Errorf("%s: %v", x.name, v)
		}
	}
	all := rightOnes()
	for n := range 17 {
		part := slices.Clone(all[n : 2*n])
		slices.Reverse(part)
		v, why := value.Set(append(part, part...))
		if v = made(t, "in order", v, why); !alike(v, set(all[n:2*n]...)) {
			t.Errorf("%v", v)
		}
	}
}

// Promises 6.2 of Set and 6.1, and P2: sets that are not right.
func TestSetsThatAreNotRight(t *testing.T) {
	refused := func(name string, want api.Errno, l ...api.Value) {
		t.Helper()
		for range 2 {
			if v, why := value.Set(l); !zero(v) || why != want {
				t.Errorf("%s: %v, error %d, not %d", name, v, why, want)
			}
			l = slices.Clone(l)
			slices.Reverse(l)
		}
	}
	for name, v := range wrongOnes() {
		refused(name, api.ErrType, v)
		refused(name+", twice", api.ErrType, v, v)
		refused(name+", among others", api.ErrType, long(1), v, record(""))
		refused(name+", and too deep", api.ErrType, nested(20), v)
	}
	// One that is not right, and like one that is: the order is no matter.
	refused("like a right one", api.ErrType, long(1), with(long(1), func(v *api.Value) { v.B = true }))
	refused("like two right ones", api.ErrType, long(1), with(long(1), func(v *api.Value) { v.S = "x" }), long(1))
	refused("too many", api.ErrType, numbers(17)...)
	refused("very many", api.ErrType, numbers(1<<16)...)
	refused("too many, too deep", api.ErrType, append(numbers(17), nested(20))...)
	refused("too deep", api.ErrDepth, nested(8))
	refused("too deep, twice", api.ErrDepth, nested(8), nested(8), long(1))
	refused("very deep", api.ErrDepth, nested(1<<16))
	refused("too many parts in all", api.ErrMany, wide(128))
	refused("too many parts together", api.ErrMany, wide(70), wide(58))
	refused("too many parts, too deep", api.ErrDepth, wide(150), nested(8))
	// What is there twice counts once: 70, 57 and the set itself are 128.
	v, why := value.Set([]api.Value{wide(70), wide(57), wide(70)})
	if v = made(t, "as many parts as may be", v, why); count(v) != api.MaxNodes {
		t.Errorf("%d parts", count(v))
	}
}

// Promise 6.5: sets of the same values in any order, each any many times.
func TestSetsHangOnTheirPartsAlone(t *testing.T) {
	r := rand.New(rand.NewSource(65))
	for range 2000 {
		var l []api.Value
		for range r.Intn(8) {
			l = append(l, some(r, 3))
		}
		v, why := value.Set(l)
		more := slices.Clone(l)
		for range r.Intn(20) * min(1, len(l)) {
			more = append(more, l[r.Intn(len(l))])
		}
		r.Shuffle(len(more), func(i, j int) { more[i], more[j] = more[j], more[i] })
		w, reason := value.Set(more)
		if !alike(v, w) || why != reason {
			t.Fatalf("%v, error %d; %v, error %d", v, why, w, reason)
		}
		for _, p := range l {
			if why == api.OK && !value.Has(v, p) {
				t.Fatalf("%v has no %v", v, p)
			}
		}
		for _, p := range v.List {
			if !slices.ContainsFunc(l, func(q api.Value) bool { return alike(p, q) }) {
				t.Fatalf("%v was not put into %v", p, v)
			}
		}
	}
}

// Promise 6.2 of Record.
func TestRecord(t *testing.T) {
	for _, x := range []struct {
		name  string
		names []string
		l     []api.Value
		want  api.Value
	}{
		{"nothing", nil, []api.Value{}, record("")},
		{"one", []string{"a"}, []api.Value{long(7)}, record("a", long(7))},
		{"turned round", []string{"c", "b", "a"}, []api.Value{long(3), long(2), long(1)}, record("a,b,c", long(1), long(2), long(3))},
		{"by bytes", []string{"é", "b", "B", " ", "true"}, numbers(5), record(" ,B,b,true,é", long(0), long(-1), long(-2), long(1), long(-3))},
		{"values alike", []string{"b", "a"}, []api.Value{long(1), long(1)}, record("a,b", long(1), long(1))},
		{"as many as may be", strings.Split(letters(16), ","), numbers(16), record(letters(16), numbers(16)...)},
		{"a long name", []string{strings.Repeat("n", 64)}, numbers(1), record(strings.Repeat("n", 64), numbers(1)...)},
		{"as deep as may be", []string{"a"}, []api.Value{nested(7)}, record("a", nested(7))},
	} {
		v, why := value.Record(x.names, x.l)
		if v = made(t, x.name, v, why); !alike(v, x.want) {
			t.Errorf("%s: %v", x.name, v)
		}
	}
}

// Promise 6.2 of Record, and P2: the first error that applies.
func TestRecordsThatAreNotRight(t *testing.T) {
	many := strings.Split(letters(17), ",")
	for _, x := range []struct {
		name  string
		names []string
		l     []api.Value
		want  api.Errno
	}{
		{"a name too many", []string{"a"}, nil, api.ErrMany},
		{"a value too many", nil, numbers(1), api.ErrMany},
		{"not as many, a name twice", []string{"a", "a"}, numbers(3), api.ErrMany},
		{"not as many, a wrong value", []string{"a", "b"}, []api.Value{text("\xff")}, api.ErrMany},
		{"a name twice", []string{"a", "a"}, numbers(2), api.ErrTwice},
		{"a name twice, of one value", []string{"a", "a"}, []api.Value{long(1), long(1)}, api.ErrTwice},
		{"a name twice, apart", []string{"b", "a", "c", "b"}, numbers(4), api.ErrTwice},
		{"a wrong name twice", []string{"", "a", ""}, numbers(3), api.ErrTwice},
		{"a name twice, a wrong value", []string{"a", "a"}, []api.Value{text("\xff"), long(1)}, api.ErrTwice},
		{"a name twice, too many", append(many, "a"), numbers(18), api.ErrTwice},
		{"a name without bytes", []string{"a", ""}, numbers(2), api.ErrType},
		{"a name too long", []string{strings.Repeat("n", 65)}, numbers(1), api.ErrType},
		{"a name no UTF-8", []string{"\xff"}, numbers(1), api.ErrType},
		{"too many", many, numbers(17), api.ErrType},
		{"a wrong value, too deep", []string{"a", "b"}, []api.Value{nested(9), text("\xff")}, api.ErrType},
		{"too deep", []string{"b", "a"}, []api.Value{nested(8), long(1)}, api.ErrDepth},
		{"too deep, too many parts", []string{"b", "a"}, []api.Value{nested(8), wide(150)}, api.ErrDepth},
		{"very deep", []string{"a"}, []api.Value{nested(1 << 16)}, api.ErrDepth},
		{"too many parts", []string{"a"}, []api.Value{wide(128)}, api.ErrMany},
	} {
		if v, why := value.Record(x.names, x.l); !zero(v) || why != x.want {
			t.Errorf("%s: %v, error %d", x.name, v, why)
		}
	}
	for name, v := range wrongOnes() {
		if w, why := value.Record([]string{"b", "a"}, []api.Value{v, long(1)}); !zero(w) || why != api.ErrType {
			t.Errorf("%s: %v, error %d", name, w, why)
		}
	}
}

// Promise 6.6, and 6.2 of Get: what was put under a name is got, and nothing else.
func TestGet(t *testing.T) {
	r := rand.New(rand.NewSource(66))
	for range 1000 {
		var names []string
		var l []api.Value
		for _, i := range r.Perm(16)[:r.Intn(10)] {
			names, l = append(names, string([]byte{byte('a' + i)})), append(l, some(r, 3))
		}
		v, why := value.Record(names, l)
		if why != api.OK {
			t.Fatalf("error %d", why)
		}
		for i := range 26 {
			name := string([]byte{byte('a' + i)})
			want, reason := api.Value{}, api.ErrMissing
			if at := slices.Index(names, name); at >= 0 {
				want, reason = l[at], api.OK
			}
			if got, why := value.Get(v, name); !alike(got, want) || why != reason {
				t.Fatalf("%s of %v: %v, error %d", name, v, got, why)
			}
		}
	}
}

// Promise 6.2 of Get, P1 and P2: what is no record, names that are not there, and records made by hand.
func TestGetOfOthers(t *testing.T) {
	for _, v := range append(slices.Collect(maps.Values(wrongOnes())), rightOnes()...) {
		for _, name := range []string{"", "none", "A", "\xff", strings.Repeat("n", 1<<16)} {
			want := api.ErrType
			if v.Kind == api.KindRecord {
				want = api.ErrMissing
			}
			if slices.Contains(v.Names, name) && v.Kind == api.KindRecord && len(v.List) > 0 {
				want = api.OK
			}
			if got, why := value.Get(v, name); want != api.OK && !zero(got) || why != want {
				t.Errorf("%q of %v: %v, error %d", name, v, got, why)
			}
		}
	}
	for _, v := range []api.Value{with(record("a", long(1)), func(v *api.Value) { v.Kind = api.KindSet }), with(record("a", long(1)), func(v *api.Value) { v.Kind = 6 }), {Names: []string{"a"}, List: numbers(1)}} {
		if got, why := value.Get(v, "a"); !zero(got) || why != api.ErrType {
			t.Errorf("%v: %v, error %d", v, got, why)
		}
	}
	for _, x := range []struct {
		v    api.Value
		name string
		want api.Value
		why  api.Errno
	}{
		{record("a,b", long(1)), "a", long(1), api.OK},
		{record("a,b", long(1)), "b", api.Value{}, api.ErrMissing},
		{record("a", long(1), long(2)), "a", long(1), api.OK},
		{record("b,a,b", long(1), long(2), long(3)), "b", long(1), api.OK},
		{record("b,a", long(1), long(2)), "a", long(2), api.OK},
		{record("a", nested(100)), "a", nested(100), api.OK},
		{record("a", text("\xff")), "a", text("\xff"), api.OK},
		{record(letters(20), numbers(20)...), "t", long(16), api.OK},
	} {
		if got, why := value.Get(x.v, x.name); !alike(got, x.want) || why != x.why {
			t.Errorf("%s of %v: %v, error %d", x.name, x.v, got, why)
		}
	}
}

// Promise 6.2 of Has: sets as they may be, and as they may not.
func TestHas(t *testing.T) {
	all := rightOnes()
	for i := 0; i+16 <= len(all); i += 5 {
		for j, p := range all {
			if got := value.Has(set(all[i:i+16]...), again(p)); got != (j >= i && j < i+16) {
				t.Errorf("%v has %v: %t", all[i:i+16], p, got)
			}
			if value.Has(p, set()) != (p.Kind == api.KindSet && len(p.List) > 0 && alike(p.List[0], set())) {
				t.Errorf("%v has an empty set, or has none", p)
			}
		}
	}
	for _, x := range []struct {
		name    string
		v, part api.Value
		want    bool
	}{
		{"nothing", set(), long(1), false},
		{"no set", record("a", long(1)), long(1), false},
		{"no set, though it has a List", api.Value{List: numbers(3)}, long(-3), false},
		{"a kind that is none", api.Value{Kind: 6, List: numbers(3)}, long(-3), false},
		{"itself", set(long(1)), set(long(1)), false},
		{"a part's part", set(set(long(1))), long(1), false},
		{"not in order", set(long(3), long(1), long(2)), long(3), true},
		{"not in order, the least one last", set(long(3), long(2), long(1)), long(1), true},
		{"too many", set(numbers(100)...), long(96), true},
		{"too deep", set(nested(50), nested(51)), nested(51), true},
		{"like it, but for a field that the kind has not", set(long(1)), with(long(1), func(v *api.Value) { v.S = "s" }), true},
		{"wrong ones", set(text("\xff")), text("\xff"), true},
	} {
		if got := value.Has(x.v, x.part); got != x.want {
			t.Errorf("%s: %t", x.name, got)
		}
	}
}

// odd is a value made by hand, whose fields may be anything.
func odd(r *rand.Rand, deep int) api.Value {
	v := api.Value{}
	if r.Intn(3) > 0 {
		v = some(r, deep)
	}
	if r.Intn(3) == 0 {
		v.Kind = api.Kind(r.Intn(8))
	}
	if r.Intn(4) == 0 {
		v.B, v.N = !v.B, int64(r.Intn(3))
	}
	if r.Intn(4) == 0 {
		v.S, v.T = []string{"", "a", "\xff"}[r.Intn(3)], []string{"", "A", "in"}[r.Intn(3)]
	}
	for range r.Intn(4) * min(1, deep) {
		if r.Intn(2) == 0 {
			v.Names = append(v.Names, []string{"", "a", "b", "\xff"}[r.Intn(4)])
		}
		if r.Intn(2) == 0 {
			v.List = append(v.List, odd(r, deep-1))
		}
	}
	return v
}

// right tells what Check answers of a value that is neither too deep nor too great, told another way.
func right(v api.Value) bool {
	is := api.Value{Kind: v.Kind}
	good := true
	switch v.Kind {
	case 0:
		is.B = v.B
	case 1:
		is.N = v.N
	case 2:
		is.S = v.S
		good = utf8.ValidString(v.S)
	case 3:
		is.T, is.S = v.T, v.S
		good = value.CheckUid(api.Uid{Type: v.T, Id: v.S}) == api.OK
	case 4:
		is.List = v.List
	case 5:
		is.Names, is.List = v.Names, v.List
		good = len(v.Names) == len(v.List) && slices.IsSorted(v.Names) && len(slices.Compact(slices.Clone(v.Names))) == len(v.Names) && !slices.Contains(v.Names, "") && !slices.Contains(v.Names, "\xff")
	default:
		good = false
	}
	for i, p := range v.List {
		good = good && right(p) && (v.Kind == 5 || i == 0 || value.Compare(v.List[i-1], p) < 0)
	}
	return good && alike(v, is)
}

// P1, and promises 6.1 and 6.4: anything made by hand is answered, and what is turned round is turned round.
func TestWhateverIsHandedIn(t *testing.T) {
	r := rand.New(rand.NewSource(1))
	good := 0
	for range 30000 {
		a, b := odd(r, 3), odd(r, 3)
		if c := value.Compare(a, b); c != -value.Compare(b, a) || value.Compare(a, again(a)) != 0 {
			t.Fatalf("Compare of %v and %v is %d", a, b, c)
		}
		want := api.ErrType
		if right(a) {
			want = api.OK
			good++
		}
		if why := value.Check(a); why != want {
			t.Fatalf("%v: error %d, not %d", a, why, want)
		}
		if v, why := value.Set([]api.Value{a, b}); (why == api.OK) != (right(a) && right(b)) || why != api.OK && !zero(v) {
			t.Fatalf("Set of %v and %v: error %d", a, b, why)
		}
		value.Get(a, "a")
		value.Has(a, b)
		value.Record(a.Names, b.List)
	}
	if good < 1000 {
		t.Errorf("%d right values", good)
	}
	deep := nested(1 << 16)
	if why := value.Check(deep); why != api.ErrDepth {
		t.Errorf("very deep: error %d", why)
	}
	if got, why := value.Get(record("a", deep), "a"); value.Compare(got, deep) != 0 || why != api.OK {
		t.Errorf("very deep: error %d", why)
	}
	if !value.Has(set(deep), deep) {
		t.Error("very deep: it is not there")
	}
}

// spoil writes over all that a value's lists have, and over the room behind them.
func spoil(v api.Value) {
	for i := range v.Names[:cap(v.Names)] {
		v.Names[:cap(v.Names)][i] = "spoilt"
	}
	for i := range v.List[:cap(v.List)] {
		spoil(v.List[:cap(v.List)][i])
		v.List[:cap(v.List)][i] = text("spoilt")
	}
}

// Promise 6.3, and P3: what is handed in is neither changed nor kept, and no two lists share memory, within an answer or without.
func TestNewMemory(t *testing.T) {
	inner := record("a,b", set(long(1), long(2)), record("c", set()))
	// The same lists stand in the arguments more than once.
	names := []string{"y", "z", "x"}
	l := []api.Value{set(inner), inner, set(inner)}
	before, nameless := rows(l), slices.Clone(names)
	calls := map[string]func() (api.Value, api.Errno){
		"Set":    func() (api.Value, api.Errno) { return value.Set(l) },
		"Record": func() (api.Value, api.Errno) { return value.Record(names, l) },
		"Get": func() (api.Value, api.Errno) {
			return value.Get(api.Value{Kind: api.KindRecord, Names: names, List: l}, "z")
		},
	}
	for name, call := range calls {
		one, why := call()
		two, reason := call()
		if why != api.OK || reason != api.OK || !alike(one, two) {
			t.Fatalf("%s: errors %d, %d", name, why, reason)
		}
		want := again(two)
		// Within one answer: what is written over in its first list is to be seen nowhere else.
		three, _ := call()
		spoil(three.List[0])
		rest := slices.Clone(three.List[1:])
		if !slices.EqualFunc(rest, want.List[1:], alike) {
			t.Errorf("%s: two lists of an answer share memory", name)
		}
		spoil(one)
		if !alike(two, want) || !slices.EqualFunc(l, before, alike) || !slices.Equal(names, nameless) {
			t.Errorf("%s: an answer shares memory, or what was handed in is changed", name)
		}
	}
	v, _ := value.Record(names, l)
	want := again(v)
	clear(names)
	spoil(set(l...))
	if !alike(v, want) {
		t.Error("what was handed in is kept")
	}
}

// Promise 6.3, and P3: room behind a list is neither read nor written, and no call sorts what is handed in.
func TestRoomBehindLists(t *testing.T) {
	l := []api.Value{long(3), long(1), long(2), long(77)}
	names := []string{"c", "a", "b", "behind"}
	for range 2 {
		v, why := value.Set(l[:3])
		if w := made(t, "Set", v, why); !alike(w, set(long(1), long(2), long(3))) {
			t.Errorf("%v", w)
		}
		v, why = value.Record(names[:3], l[:3])
		if w := made(t, "Record", v, why); !alike(w, record("a,b,c", long(1), long(2), long(3))) {
			t.Errorf("%v", w)
		}
		value.Check(set(l[:3]...))
		value.Has(set(l[:3]...), long(77))
		value.Compare(set(l[:3]...), set(l[:2]...))
		if !slices.EqualFunc(l, []api.Value{long(3), long(1), long(2), long(77)}, alike) || !slices.Equal(names, []string{"c", "a", "b", "behind"}) {
			t.Fatal("what was handed in is changed")
		}
	}
}

// P4.
func TestNoGoroutineIsLeft(t *testing.T) {
	before := runtime.NumGoroutine()
	for _, v := range rightOnes() {
		value.Check(v)
		value.Set(v.List)
		value.Record(v.Names, v.List)
		value.Get(v, "a")
		value.Has(v, v)
		value.Compare(v, v)
		value.Sum('+', v.N, v.N)
	}
	if after := runtime.NumGoroutine(); after > before {
		t.Errorf("%d goroutines, before %d", after, before)
	}
}
