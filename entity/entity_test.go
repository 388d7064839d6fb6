package entity_test

import (
	"cmp"
	"math/rand"
	"reflect"
	"runtime"
	"slices"
	"strconv"
	"strings"
	"testing"

	"lictor/api"
	"lictor/entity"
	"lictor/value"
)

func boolean(b bool) api.Value { return api.Value{Kind: api.KindBool, B: b} }

func long(n int64) api.Value { return api.Value{Kind: api.KindLong, N: n} }

func text(s string) api.Value { return api.Value{Kind: api.KindString, S: s} }

func being(kind, id string) api.Value { return api.Value{Kind: api.KindEntity, T: kind, S: id} }

// set is one of parts as they stand.
func set(parts ...api.Value) api.Value { return api.Value{Kind: api.KindSet, List: parts} }

// record is one of names with commas between, and parts, as they stand.
func record(names string, parts ...api.Value) api.Value {
	v := api.Value{Kind: api.KindRecord, List: parts}
	if names != "" {
		v.Names = strings.Split(names, ",")
	}
	return v
}

// uid is that of a type and an id with :: between; the id has none.
func uid(s string) api.Uid {
	i := strings.LastIndex(s, "::")
	return api.Uid{Type: s[:i], Id: s[i+2:]}
}

// uids are any many.
func uids(l ...string) []api.Uid {
	var out []api.Uid
	for _, s := range l {
		out = append(out, uid(s))
	}
	return out
}

// manyUids are n in order.
func manyUids(kind string, n int) []api.Uid {
	var out []api.Uid
	for i := range n {
		out = append(out, api.Uid{Type: kind, Id: strconv.Itoa(100 + i)})
	}
	return out
}

// one is an entity without attributes.
func one(u string, parents ...string) api.Entity {
	return api.Entity{Uid: uid(u), Parents: uids(parents...), Attrs: record("")}
}

// row is entities without attributes, each given by its Uid and those of its Parents, with blanks between.
func row(l ...string) []api.Entity {
	var out []api.Entity
	for _, s := range l {
		words := strings.Fields(s)
		out = append(out, one(words[0], words[1:]...))
	}
	return out
}

// manyEntities are n in order, in nothing.
func manyEntities(n int) []api.Entity {
	var out []api.Entity
	for _, u := range manyUids("U", n) {
		out = append(out, api.Entity{Uid: u, Attrs: record("")})
	}
	return out
}

// nested is a long within so many sets, less one.
func nested(deep int) api.Value {
	v := long(1)
	for range deep - 1 {
		v = set(v)
	}
	return v
}

// wide is a record of sets of longs that has so many parts in all, from 20 to 250.
func wide(parts int) api.Value {
	v := record("")
	rest := parts - 1 - 16
	for i := range 16 {
		take := rest / (16 - i)
		rest -= take
		part := set()
		for n := range take {
			part.List = append(part.List, long(int64(n)))
		}
		v.Names, v.List = append(v.Names, string(rune('a'+i))), append(v.List, part)
	}
	return v
}

// with is e, changed.
func with(e api.Entity, change func(e *api.Entity)) api.Entity {
	e = again(e)
	change(&e)
	return e
}

// valueAgain is the same value in memory of its own.
func valueAgain(v api.Value) api.Value {
	v.Names, v.List = slices.Clone(v.Names), slices.Clone(v.List)
	for i := range v.List {
		v.List[i] = valueAgain(v.List[i])
	}
	return v
}

// again is the same entity in memory of its own.
func again(e api.Entity) api.Entity {
	e.Parents, e.Attrs = slices.Clone(e.Parents), valueAgain(e.Attrs)
	return e
}

// rowAgain is the same row in memory of its own.
func rowAgain(l []api.Entity) []api.Entity {
	l = slices.Clone(l)
	for i := range l {
		l[i] = again(l[i])
	}
	return l
}

// valuesAlike tells whether two values are the same; nil and empty lists are.
func valuesAlike(a, b api.Value) bool {
	return a.Kind == b.Kind && a.B == b.B && a.N == b.N && a.S == b.S && a.T == b.T && slices.Equal(a.Names, b.Names) && slices.EqualFunc(a.List, b.List, valuesAlike)
}

// alike tells whether two entities are the same.
func alike(a, b api.Entity) bool {
	return a.Uid == b.Uid && slices.Equal(a.Parents, b.Parents) && valuesAlike(a.Attrs, b.Attrs)
}

func rowsAlike(a, b []api.Entity) bool { return slices.EqualFunc(a, b, alike) }

// zero tells whether an answer is the zero one.
func zero(v any) bool { return reflect.ValueOf(v).IsZero() }

// oneOf is one of a list by chance.
func oneOf[T any](r *rand.Rand, l []T) T { return l[r.Intn(len(l))] }

// kinds and ids are right ones, at their limits, too.
func kinds() []string {
	return []string{"User", "A::B", "_", "A::B::C", "contains", "Action", strings.Repeat("T", 64)}
}

func ids() []string {
	return []string{"a", "", "x y", `"`, `\*`, "\x00\n", "é", strings.Repeat("i", 64), strings.Repeat("é", 32)}
}

func anyUid(r *rand.Rand) api.Uid { return api.Uid{Type: oneOf(r, kinds()), Id: oneOf(r, ids())} }

// anyValue is a right value by chance, if it is neither too deep nor too great.
func anyValue(r *rand.Rand, deep int) api.Value {
	if deep > 1 && r.Intn(2) == 0 {
		var parts []api.Value
		for range r.Intn(4) {
			parts = append(parts, anyValue(r, deep-1))
		}
		if r.Intn(2) == 0 {
			v, _ := value.Set(parts)
			return valueOr(v, set())
		}
		return anyRecord(r, parts)
	}
	return oneOf(r, []api.Value{boolean(true), boolean(false), long(0), long(7), long(-7), long(1<<63 - 1), long(-1 << 63), long(1 - 1<<63), text(""), text("a \"\\*\n"), text(`\\`), text(strings.Repeat("é", 128)), being("User", "a"), being("A::B", "\n\x00"), set(), record("")})
}

// valueOr is v, or another one if v is none.
func valueOr(v, other api.Value) api.Value {
	if zero(v) {
		return other
	}
	return v
}

// anyRecord is a record of parts.
func anyRecord(r *rand.Rand, parts []api.Value) api.Value {
	names := []string{"a", "in", "x y", "é", strings.Repeat("n", 64), "\"\\"}
	r.Shuffle(len(names), func(i, j int) { names[i], names[j] = names[j], names[i] })
	v, _ := value.Record(names[:len(parts)], parts)
	return valueOr(v, record(""))
}

// anyEntity is a right one by chance.
func anyEntity(r *rand.Rand) api.Entity {
	e := api.Entity{Uid: anyUid(r)}
	for range r.Intn(5) {
		e.Parents = append(e.Parents, anyUid(r))
	}
	slices.SortFunc(e.Parents, inOrder)
	e.Parents = slices.Compact(slices.DeleteFunc(e.Parents, func(u api.Uid) bool { return u == e.Uid }))
	var parts []api.Value
	for range r.Intn(5) {
		parts = append(parts, anyValue(r, 3))
	}
	e.Attrs = anyRecord(r, parts)
	return e
}

// inOrder is the order in which Uids stand.
func inOrder(a, b api.Uid) int {
	if a.Type != b.Type {
		return strings.Compare(a.Type, b.Type)
	}
	return strings.Compare(a.Id, b.Id)
}

// above are all who are above somebody, as chapter 11's words have it: in order.
func above(l []api.Entity, u api.Uid) []api.Uid {
	out := []api.Uid{u}
	for more := true; more; {
		more = false
		for _, e := range l {
			for _, p := range e.Parents {
				if slices.Contains(out, e.Uid) && !slices.Contains(out, p) {
					out, more = append(out, p), true
				}
			}
		}
	}
	slices.SortFunc(out, inOrder)
	return out
}

// checked is what Check answers, as chapter 11's words have it.
func checked(e api.Entity) api.Errno {
	if why := value.CheckUid(e.Uid); why != api.OK {
		return why
	}
	for _, p := range e.Parents {
		if why := value.CheckUid(p); why != api.OK {
			return why
		}
	}
	for i := range e.Parents {
		if len(e.Parents) > 16 {
			return api.ErrMany
		}
		if i > 0 && inOrder(e.Parents[i-1], e.Parents[i]) != -1 {
			return api.ErrSyntax
		}
	}
	if slices.Index(e.Parents, e.Uid) >= 0 {
		return api.ErrCycle
	}
	if why := value.Check(e.Attrs); why != api.OK || e.Attrs.Kind == api.KindRecord {
		return why
	}
	return api.ErrType
}

// checkedRow is what CheckRow answers, as chapter 11's words have it.
func checkedRow(l []api.Entity) api.Errno {
	if len(l) > 64 {
		return api.ErrMany
	}
	for _, e := range l {
		if why := checked(e); why != api.OK {
			return why
		}
	}
	for i, a := range l {
		for _, b := range l[:i] {
			if a.Uid == b.Uid {
				return api.ErrTwice
			}
		}
	}
	if !slices.IsSortedFunc(l, func(a, b api.Entity) int { return inOrder(a.Uid, b.Uid) }) {
		return api.ErrSyntax
	}
	for _, e := range l {
		for _, p := range e.Parents {
			if slices.Contains(above(l, p), e.Uid) {
				return api.ErrCycle
			}
		}
	}
	return api.OK
}

// The sections Limits and Errors, as far as they speak of entities.
func TestLimitsAndErrors(t *testing.T) {
	if api.MaxEntities != 64 || api.MaxParts != 16 || api.MaxId != 64 || api.MaxText != 2048 || api.MaxNest != 8 || api.MaxNodes != 128 {
		t.Error("a limit is another one")
	}
	if api.OK != 0 || api.ErrMany != 2 || api.ErrLong != 3 || api.ErrDepth != 4 || api.ErrSyntax != 5 || api.ErrUtf != 6 || api.ErrType != 7 || api.ErrUnknown != 9 || api.ErrTwice != 10 || api.ErrOver != 11 || api.ErrCycle != 12 {
		t.Error("an error's number is another one")
	}
}

// Promise 11.2 of Check, and words: the first error that applies.
func TestCheck(t *testing.T) {
	e := one("User::a", "Group::g", "Group::h")
	e.Attrs = record("age", long(3))
	long65 := strings.Repeat("i", 65)
	badType, badUtf, badLong := api.Uid{Type: "in", Id: "\xff"}, api.Uid{Type: "U", Id: "\xff" + long65}, api.Uid{Type: "U", Id: long65}
	parents := func(l ...api.Uid) func(e *api.Entity) { return func(e *api.Entity) { e.Parents = l } }
	for _, x := range []struct {
		name   string
		change func(e *api.Entity)
		want   api.Errno
	}{
		{"right", func(e *api.Entity) {}, api.OK}, {"nil Parents", parents(), api.OK}, {"empty Parents", parents([]api.Uid{}...), api.OK}, {"no Attrs", func(e *api.Entity) { e.Attrs = record("") }, api.OK},
		{"a Uid at its limits", func(e *api.Entity) { e.Uid = api.Uid{Type: long65[1:], Id: long65[1:]} }, api.OK},
		{"a Type that is none", func(e *api.Entity) { e.Uid = badType }, api.ErrSyntax}, {"an Id that is no UTF-8", func(e *api.Entity) { e.Uid = badUtf }, api.ErrUtf}, {"an Id that is too long", func(e *api.Entity) { e.Uid = badLong }, api.ErrLong}, {"no Uid", func(e *api.Entity) { e.Uid = api.Uid{} }, api.ErrSyntax},
		{"the Uid ahead of Parents", func(e *api.Entity) { e.Uid, e.Parents = badLong, []api.Uid{badUtf} }, api.ErrLong},
		{"a parent's Type that is none", parents(badType), api.ErrSyntax}, {"a parent's Id that is no UTF-8", parents(uid("U::a"), badUtf), api.ErrUtf}, {"a parent's Id that is too long", parents(badLong), api.ErrLong}, {"Parents' errors from the left", parents(badLong, badUtf), api.ErrLong}, {"Parents' errors from the left, turned", parents(badUtf, badLong), api.ErrUtf},
		{"a parent's error ahead of their order", parents(uid("U::b"), uid("U::a"), badUtf), api.ErrUtf}, {"a parent's error ahead of there being too many", parents(append(manyUids("U", 17), badUtf)...), api.ErrUtf},
		{"as many Parents as may be", parents(manyUids("U", 16)...), api.OK}, {"one too many", parents(manyUids("U", 17)...), api.ErrMany}, {"far too many", parents(manyUids("U", 300)...), api.ErrMany}, {"too many ahead of their order", parents(append(manyUids("U", 16), uid("U::"))...), api.ErrMany}, {"too many ahead of itself", parents(append(manyUids("U", 16), uid("User::a"))...), api.ErrMany},
		{"not in order by Id", parents(uid("U::b"), uid("U::a")), api.ErrSyntax}, {"not in order by Type", parents(uid("V::a"), uid("U::b")), api.ErrSyntax}, {"in order by Type", parents(uid("U::b"), uid("V::a")), api.OK}, {"in order by bytes", parents(uid("U::"), uid("U::B"), uid("U::a"), uid("U::é"), uid("a::")), api.OK}, {"a Type ahead of one that is longer", parents(uid("U::z"), uid("UU::a")), api.OK}, {"Type and Id are not one text", parents(uid("UU::a"), uid("U::z")), api.ErrSyntax}, {"one there twice", parents(uid("U::a"), uid("U::a")), api.ErrSyntax}, {"the last two not in order", parents(uid("U::a"), uid("U::c"), uid("U::b")), api.ErrSyntax},
		{"not in order, itself among them", parents(uid("User::b"), uid("User::a")), api.ErrSyntax}, {"itself twice", parents(uid("User::a"), uid("User::a")), api.ErrSyntax}, {"itself", parents(uid("User::a")), api.ErrCycle}, {"itself among others", parents(uid("Group::g"), uid("User::a"), uid("User::b")), api.ErrCycle}, {"its Id, of another Type", parents(uid("Users::a")), api.OK},
		{"itself ahead of Attrs", func(e *api.Entity) { e.Parents, e.Attrs = uids("User::a"), api.Value{Kind: 9} }, api.ErrCycle},
		{"Attrs of no kind", func(e *api.Entity) { e.Attrs = api.Value{Kind: api.KindCount} }, api.ErrType}, {"zero Attrs", func(e *api.Entity) { e.Attrs = api.Value{} }, api.ErrType}, {"Attrs that are a set", func(e *api.Entity) { e.Attrs = set() }, api.ErrType}, {"Attrs that are an entity", func(e *api.Entity) { e.Attrs = being("U", "a") }, api.ErrType}, {"Attrs not in order", func(e *api.Entity) { e.Attrs = record("b,a", long(1), long(2)) }, api.ErrType},
		{"Attrs as deep as may be", func(e *api.Entity) { e.Attrs = record("a", nested(7)) }, api.OK}, {"Attrs too deep", func(e *api.Entity) { e.Attrs = record("a", nested(8)) }, api.ErrDepth}, {"a set that is too deep", func(e *api.Entity) { e.Attrs = nested(9) }, api.ErrDepth}, {"Attrs as great as may be", func(e *api.Entity) { e.Attrs = wide(128) }, api.OK}, {"Attrs too great", func(e *api.Entity) { e.Attrs = wide(129) }, api.ErrMany},
	} {
		one := with(e, x.change)
		before := again(one)
		if why := entity.Check(one); why != x.want || why != checked(one) || !alike(one, before) {
			t.Errorf("%s: error %d, not %d", x.name, why, x.want)
		}
		if s, why := entity.Print(one); why != x.want || (s == "") != (x.want != api.OK) {
			t.Errorf("%s: printed %.80q, error %d", x.name, s, why)
		}
		if why := entity.CheckRow([]api.Entity{one}); why != x.want {
			t.Errorf("%s, in a row: error %d", x.name, why)
		}
		if l, why := entity.Put(nil, one); why != x.want || (len(l) == 1) != (x.want == api.OK) {
			t.Errorf("%s, put: %v, error %d", x.name, l, why)
		}
	}
}

// wrongRows are rows that are not right, and why.
func wrongRows() map[string]api.Errno {
	return map[string]api.Errno{
		"U::a|U::a": api.ErrTwice, "U::a|U::b|U::a": api.ErrTwice, "U::b|U::a|U::b": api.ErrTwice, "U::b|U::c|U::a|U::a": api.ErrTwice, "U::a U::b|U::b U::a|U::a": api.ErrTwice,
		"U::b|U::a": api.ErrSyntax, "U::a|U::c|U::b": api.ErrSyntax, "V::a|U::b": api.ErrSyntax, "UU::a|U::b": api.ErrSyntax, "U::a|U::A": api.ErrSyntax, "U::b U::a|U::a U::b": api.ErrSyntax,
		"U::a U::b|U::b U::a": api.ErrCycle, "U::a U::b|U::b U::c|U::c U::a": api.ErrCycle, "U::a|U::b U::a|U::c U::b U::d|U::d U::a U::c": api.ErrCycle, "U::a U::b|U::b U::c|U::c U::b|U::d": api.ErrCycle, "U::a U::x|U::b U::c|U::c U::b U::x": api.ErrCycle, "A::a A::b|A::b B::a|B::a B::b|B::b A::b": api.ErrCycle,
		"U::a U::a": api.ErrCycle, "U::b|U::a U::a": api.ErrCycle, "U::a U::c U::b|U::a": api.ErrSyntax, "U::a|in::a|U::a": api.ErrSyntax,
	}
}

// Promise 11.3 of CheckRow, and words: rows that are not right; each of the other calls tells it first.
func TestWrongRows(t *testing.T) {
	rows := map[string][]api.Entity{"one too many": manyEntities(65), "far too many": manyEntities(1000), "too many, and wrong": append(manyEntities(65), api.Entity{}), "an Id that is too long, behind one that is there twice": append(row("U::a", "U::a"), one("U::"+strings.Repeat("i", 65))), "too deep, and not in order": {one("U::b"), with(one("U::a"), func(e *api.Entity) { e.Attrs = record("a", nested(8)) })}, "Check's first error": {one("U::b"), {Uid: api.Uid{Type: "U", Id: "\xff"}}, {}}, "no Attrs": {{Uid: uid("U::a")}}}
	wants := map[string]api.Errno{"one too many": api.ErrMany, "far too many": api.ErrMany, "too many, and wrong": api.ErrMany, "an Id that is too long, behind one that is there twice": api.ErrLong, "too deep, and not in order": api.ErrDepth, "Check's first error": api.ErrUtf, "no Attrs": api.ErrType}
	for s, want := range wrongRows() {
		rows[s], wants[s] = row(strings.Split(s, "|")...), want
	}
	for name, l := range rows {
		want, before := wants[name], rowAgain(l)
		if why := entity.CheckRow(l); why != want || checkedRow(l) != want {
			t.Errorf("%s: error %d, not %d", name, why, want)
		}
		// What else is wrong comes behind the row.
		for _, u := range []api.Uid{uid("U::a"), uid("U::none"), {}, {Type: "U", Id: "\xff"}} {
			if e, why := entity.Find(l, u); !zero(e) || why != want {
				t.Errorf("%s: %v is found, error %d", name, e, why)
			}
			if m, why := entity.Put(l, api.Entity{Uid: u, Attrs: record("")}); m != nil || why != want {
				t.Errorf("%s: %v is put, error %d", name, m, why)
			}
			if m, why := entity.Drop(l, u); m != nil || why != want {
				t.Errorf("%s: %v behind a drop, error %d", name, m, why)
			}
			if m, why := entity.Above(l, u); m != nil || why != want {
				t.Errorf("%s: %v are above, error %d", name, m, why)
			}
		}
		if !rowsAlike(l, before) {
			t.Errorf("%s: what was handed in is changed", name)
		}
	}
}

// Promise 11.3 of CheckRow, and words: rows that are right.
func TestRightRows(t *testing.T) {
	rows := [][]api.Entity{nil, {}, row("U::a"), manyEntities(64), row("A::z", "AA::a", "B::", "B::A", "B::a", "a::"), row("U::a U::b U::c", "U::b U::c", "U::c"), row("U::a", "U::b U::a", "U::c U::a U::b"), row("U::a U::none", "U::b U::none V::none")}
	for i, l := range rows {
		if why := entity.CheckRow(l); why != api.OK || checkedRow(l) != api.OK {
			t.Errorf("row %d: error %d", i, why)
		}
	}
}

// anyRow is entities by chance, of few Uids: in order and none twice, if it is to be.
func anyRow(r *rand.Rand, ordered bool) []api.Entity {
	names := []string{"U::a", "U::b", "U::c", "V::a", "V::b", "W::", "W::a"}
	var l []api.Entity
	for range r.Intn(8) {
		e := one(oneOf(r, names))
		for range r.Intn(3) {
			e.Parents = append(e.Parents, uid(oneOf(r, append(names, "X::none"))))
		}
		if ordered || r.Intn(8) > 0 {
			slices.SortFunc(e.Parents, inOrder)
			e.Parents = slices.Compact(e.Parents)
		}
		e.Attrs = record("n", long(r.Int63()))
		l = append(l, e)
	}
	if ordered || r.Intn(4) > 0 {
		slices.SortFunc(l, func(a, b api.Entity) int { return inOrder(a.Uid, b.Uid) })
		l = slices.CompactFunc(l, func(a, b api.Entity) bool { return a.Uid == b.Uid })
	}
	return l
}

// Promise 11.3 of CheckRow: rows by chance, against the words.
func TestCheckRowByChance(t *testing.T) {
	r := rand.New(rand.NewSource(113))
	seen := map[api.Errno]int{}
	for range 20000 {
		l := anyRow(r, r.Intn(2) == 0)
		want := checkedRow(l)
		seen[want]++
		if why := entity.CheckRow(l); why != want {
			t.Fatalf("%v: error %d, not %d", l, why, want)
		}
	}
	for _, why := range []api.Errno{api.OK, api.ErrTwice, api.ErrSyntax, api.ErrCycle} {
		if seen[why] < 100 {
			t.Errorf("error %d comes %d times", why, seen[why])
		}
	}
}

// Promise 11.3 of Find, Put and Drop: rows that are changed, against a list that is sorted anew.
func TestFindPutDrop(t *testing.T) {
	r := rand.New(rand.NewSource(31))
	seen := map[string]int{}
	for range 20000 {
		l := anyRow(r, true)
		if checkedRow(l) != api.OK {
			continue
		}
		e := oneOf(r, append(anyRow(r, true), one("U::aa", "U::a"), one("A::", "U::c"), one("Z::", "U::b"), one("U::b", "U::b")))
		before, asked := rowAgain(l), again(e)
		others := slices.DeleteFunc(slices.Clone(l), func(one api.Entity) bool { return one.Uid == e.Uid })
		there := len(others) < len(l)

		found, why := entity.Find(l, e.Uid)
		i := slices.IndexFunc(l, func(one api.Entity) bool { return one.Uid == e.Uid })
		if there && (!alike(found, l[i]) || why != api.OK) || !there && (!zero(found) || why != api.ErrUnknown) {
			t.Fatalf("%v of %v: %v, error %d", e.Uid, l, found, why)
		}

		rest, why := entity.Drop(l, e.Uid)
		if there && (!rowsAlike(rest, others) || why != api.OK) || !there && (rest != nil || why != api.ErrUnknown) {
			t.Fatalf("%v without %v: %v, error %d", l, e.Uid, rest, why)
		}

		want := append(slices.Clone(others), e)
		slices.SortFunc(want, func(a, b api.Entity) int { return inOrder(a.Uid, b.Uid) })
		reason := cmp.Or(checked(e), checkedRow(want))
		put, why := entity.Put(l, e)
		if why != reason || reason == api.OK && !rowsAlike(put, want) || reason != api.OK && put != nil {
			t.Fatalf("%v with %v: %v, error %d, not %d", l, e, put, why, reason)
		}
		if !rowsAlike(l, before) || !alike(e, asked) {
			t.Fatal("what was handed in is changed")
		}
		seen["there "+strconv.FormatBool(there)]++
		seen["error "+strconv.Itoa(int(reason))]++
	}
	for _, s := range []string{"there true", "there false", "error 0", "error 12"} {
		if seen[s] < 300 {
			t.Errorf("%s: %d times", s, seen[s])
		}
	}
}

// Promise 11.3: Put, Drop and Find at the edges of a row.
func TestEdgesOfARow(t *testing.T) {
	full := manyEntities(64)
	for _, x := range []struct {
		name string
		l    []api.Entity
		e    api.Entity
		want api.Errno
		i, n int
	}{
		{"into none", nil, one("U::a"), api.OK, 0, 1}, {"ahead of all", row("U::b", "U::c"), one("U::a"), api.OK, 0, 3}, {"behind all", row("U::a", "U::b"), one("U::c"), api.OK, 2, 3}, {"between", row("U::a", "U::c"), one("U::b"), api.OK, 1, 3}, {"in its place, the first one", row("U::a", "U::b"), one("U::a", "U::b"), api.OK, 0, 2}, {"in its place, the last one", row("U::a", "U::b"), one("U::b", "U::a"), api.OK, 1, 2}, {"in its place, alone", row("U::a U::b"), one("U::a"), api.OK, 0, 1},
		{"a full row", full, one("U::050"), api.ErrMany, 0, 0}, {"a full row, in its place", full, one("U::163"), api.OK, 63, 64}, {"a last one", full[:63], one("Z::"), api.OK, 63, 64},
		{"round", row("U::a U::b", "U::b"), one("U::b", "U::a"), api.ErrCycle, 0, 0}, {"round no more", row("U::a U::b", "U::b U::c", "U::c"), one("U::b"), api.OK, 1, 3}, {"too many, ahead of round", append(slices.Clone(full[:63]), one("U::163", "U::999")), one("U::999", "U::163"), api.ErrMany, 0, 0},
		{"e is not right, ahead of too many", full, api.Entity{Uid: api.Uid{Type: "U", Id: "\xff"}}, api.ErrUtf, 0, 0}, {"above what is not there", row("U::a"), one("U::b", "X::x"), api.OK, 1, 2}, {"what is named is there now, and names it", row("U::a U::b"), one("U::b", "U::a"), api.ErrCycle, 0, 0},
	} {
		l, why := entity.Put(x.l, x.e)
		if why != x.want || len(l) != x.n || x.want == api.OK && !alike(l[x.i], x.e) || entity.CheckRow(l) != api.OK {
			t.Errorf("%s: %v, error %d", x.name, l, why)
		}
	}
	for _, u := range []api.Uid{{}, {Type: "in", Id: "\xff"}, {Type: "U"}, {Type: "U", Id: strings.Repeat("1", 65)}, {Type: "U", Id: "99"}, {Type: "u", Id: "100"}, {Type: "U", Id: "164"}, {Type: "U", Id: "1000"}} {
		if e, why := entity.Find(full, u); !zero(e) || why != api.ErrUnknown {
			t.Errorf("%v is found: %v, error %d", u, e, why)
		}
		if l, why := entity.Drop(full, u); l != nil || why != api.ErrUnknown {
			t.Errorf("%v is dropped: %v, error %d", u, l, why)
		}
	}
	if l, why := entity.Drop(row("U::a"), uid("U::a")); len(l) != 0 || why != api.OK {
		t.Errorf("the last one is dropped: %v, error %d", l, why)
	}
	if l, why := entity.Drop(row("U::a U::b", "U::b"), uid("U::b")); !rowsAlike(l, row("U::a U::b")) || why != api.OK {
		t.Errorf("who is named is dropped: %v, error %d", l, why)
	}
}

// Promise 11.3 of Above, words, and example 1.
func TestAbove(t *testing.T) {
	abc := row("U::a U::b", "U::b U::c", "U::c")
	for _, x := range []struct {
		l    []api.Entity
		u    string
		want string
	}{
		{abc, "U::a", "U::a U::b U::c"}, {abc, "U::b", "U::b U::c"}, {abc, "U::c", "U::c"}, {abc, "U::d", "U::d"}, {nil, "U::a", "U::a"}, {abc, "V::", "V::"},
		{row("U::c U::a U::b"), "U::c", "U::a U::b U::c"}, {row("U::a", "U::b U::a", "U::c U::b"), "U::c", "U::a U::b U::c"}, {row("A::a B::x", "B::x A::0"), "A::a", "A::0 A::a B::x"}, {row("U::a U::b U::c", "U::b U::d", "U::c U::d", "U::d U::none"), "U::a", "U::a U::b U::c U::d U::none"}, {row("U::a U::none"), "U::none", "U::none"}, {row("AA::a A::z a::a"), "AA::a", "A::z AA::a a::a"},
	} {
		if got, why := entity.Above(x.l, uid(x.u)); !slices.Equal(got, uids(strings.Fields(x.want)...)) || why != api.OK {
			t.Errorf("above %s: %v, error %d", x.u, got, why)
		}
	}
	if l, why := entity.Put(abc, one("U::c", "U::a")); l != nil || why != api.ErrCycle {
		t.Errorf("c in a: error %d", why)
	}
	for u, want := range map[api.Uid]api.Errno{{}: api.ErrSyntax, {Type: "in", Id: "\xff"}: api.ErrSyntax, {Type: "U", Id: "\xff"}: api.ErrUtf, {Type: "U", Id: strings.Repeat("i", 65)}: api.ErrLong} {
		if got, why := entity.Above(abc, u); got != nil || why != want {
			t.Errorf("above %v: %v, error %d", u, got, why)
		}
	}
}

// Promise 11.3 of Above: a way up as long as may be, and as many above as may be.
func TestFarAbove(t *testing.T) {
	up, down := manyEntities(64), manyEntities(64)
	for i := range 63 {
		up[i].Parents, down[i+1].Parents = []api.Uid{up[i+1].Uid}, []api.Uid{down[i].Uid}
	}
	for _, x := range []struct {
		l    []api.Entity
		from int
	}{{up, 0}, {down, 63}} {
		got, why := entity.Above(x.l, x.l[x.from].Uid)
		if !slices.Equal(got, manyUids("U", 64)) || why != api.OK {
			t.Errorf("%d are above, error %d", len(got), why)
		}
	}
	for i := range up {
		up[i].Parents = append(up[i].Parents, manyUids("W"+strconv.Itoa(100+i), 15)...)
	}
	if got, why := entity.Above(up, up[0].Uid); len(got) != 64+64*15 || !slices.IsSortedFunc(got, inOrder) || why != api.OK {
		t.Errorf("%d are above, error %d", len(got), why)
	}
	dense := manyEntities(64)
	for i := range dense {
		for j := i + 1; j < min(i+17, 64); j++ {
			dense[i].Parents = append(dense[i].Parents, dense[j].Uid)
		}
	}
	if got, why := entity.Above(dense, dense[0].Uid); len(got) != 64 || why != api.OK {
		t.Errorf("%d are above, error %d", len(got), why)
	}
	dense[63].Parents = []api.Uid{dense[0].Uid}
	if why := entity.CheckRow(dense); why != api.ErrCycle {
		t.Errorf("error %d", why)
	}
}

// Promise 11.6, and 11.3 of Above: rows by chance, against the words.
func TestAboveByChance(t *testing.T) {
	r := rand.New(rand.NewSource(116))
	right := 0
	for range 10000 {
		l := anyRow(r, true)
		if checkedRow(l) != api.OK {
			continue
		}
		right++
		of := map[api.Uid][]api.Uid{}
		for _, u := range append(above(l, uid("X::none")), uids("U::a", "U::b", "U::c", "V::a", "V::b", "W::", "W::a")...) {
			got, why := entity.Above(l, u)
			if !slices.Equal(got, above(l, u)) || why != api.OK {
				t.Fatalf("above %v of %v: %v, error %d", u, l, got, why)
			}
			of[u] = got
		}
		for u, l := range of {
			for _, v := range l {
				for _, w := range of[v] {
					if !slices.Contains(l, w) || w == u && v != u {
						t.Fatalf("%v is above %v, %v above that", v, u, w)
					}
				}
			}
		}
	}
	if right < 3000 {
		t.Errorf("%d rows are right", right)
	}
}

// handMade is an entity whose fields may be anything.
func handMade(r *rand.Rand) api.Entity {
	e := one(oneOf(r, []string{"U::a", "U::b", "::", "in::a", "U::\xff", "U::" + strings.Repeat("i", 65)}))
	for range r.Intn(4) {
		e.Parents = append(e.Parents, uid(oneOf(r, []string{"U::a", "U::b", "U::c", "V::a", "U::\xff"})))
	}
	e.Attrs = oneOf(r, []api.Value{record(""), record("a", long(1)), record("a", long(1)), {}, {Kind: 77}, record("a"), record("b,a", long(1), long(2)), record("a", nested(9)), wide(140), text("\xff"), set(set())})
	return e
}

// P1, and promises 11.2 and 11.3: entities and rows that are made by hand, against the words.
func TestWhateverIsHandedIn(t *testing.T) {
	r := rand.New(rand.NewSource(1))
	for range 3000 {
		l := []api.Entity{handMade(r), handMade(r)}
		if why := entity.Check(l[0]); why != checked(l[0]) {
			t.Fatalf("%v: error %d, not %d", l[0], why, checked(l[0]))
		}
		if why := entity.CheckRow(l); why != checkedRow(l) {
			t.Fatalf("%v: error %d, not %d", l, why, checkedRow(l))
		}
		entity.Find(l, l[1].Uid)
		entity.Put(l[:1], l[1])
		entity.Drop(l, l[0].Uid)
		entity.Above(l, l[0].Uid)
		entity.Print(l[0])
		entity.ShowValue(l[0].Attrs)
	}
	deep := with(one("U::a"), func(e *api.Entity) { e.Attrs = record("a", nested(1<<16)) })
	if why := entity.Check(deep); why != api.ErrDepth {
		t.Errorf("very deep: error %d", why)
	}
	if s, why := entity.ShowValue(deep.Attrs); s != "" || why != api.ErrDepth {
		t.Errorf("very deep: error %d", why)
	}
}

// spoilValue writes over all that a value's lists have, and over the room behind them.
func spoilValue(v api.Value) {
	for i := range v.Names[:cap(v.Names)] {
		v.Names[:cap(v.Names)][i] = "spoilt"
	}
	for i := range v.List[:cap(v.List)] {
		spoilValue(v.List[:cap(v.List)][i])
		v.List[:cap(v.List)][i] = text("spoilt")
	}
}

// spoil writes over all that a row's lists have, and over the room behind them.
func spoil(l []api.Entity) {
	l = l[:cap(l)]
	for i := range l {
		parents := l[i].Parents[:cap(l[i].Parents)]
		for j := range parents {
			parents[j] = uid("Spoilt::it")
		}
		spoilValue(l[i].Attrs)
		l[i] = one("Spoilt::it")
	}
}

// Promise 11.4, and P3: what is handed in is neither changed nor kept, and no two lists share memory, within an answer or without.
func TestNewMemory(t *testing.T) {
	// The same lists stand in the arguments more than once.
	parents := append(make([]api.Uid, 0, 8), uids("V::a", "V::b")...)
	attrs := record("a,b", set(long(1), long(2)), record("c", set()))
	attrs = record("x,y", attrs, attrs)
	l := append(make([]api.Entity, 0, 8), api.Entity{Uid: uid("U::a"), Parents: parents, Attrs: attrs}, api.Entity{Uid: uid("U::b"), Parents: parents, Attrs: attrs}, api.Entity{Uid: uid("U::c"), Parents: parents, Attrs: attrs})
	room := rowAgain(l[:cap(l)])
	asRow := func(l []api.Entity, why api.Errno) []api.Entity {
		if why != api.OK {
			t.Fatalf("error %d", why)
		}
		return l
	}
	calls := map[string]func() []api.Entity{
		"Find": func() []api.Entity {
			e, why := entity.Find(l, uid("U::b"))
			return asRow([]api.Entity{e}, why)
		},
		"Put": func() []api.Entity {
			return asRow(entity.Put(l, api.Entity{Uid: uid("U::bb"), Parents: parents, Attrs: attrs}))
		},
		"Put in its place": func() []api.Entity {
			return asRow(entity.Put(l, api.Entity{Uid: uid("U::b"), Parents: parents, Attrs: attrs}))
		},
		"Put behind all": func() []api.Entity {
			return asRow(entity.Put(l, api.Entity{Uid: uid("U::d"), Parents: parents, Attrs: attrs}))
		},
		"Drop":              func() []api.Entity { return asRow(entity.Drop(l, uid("U::a"))) },
		"Drop the last one": func() []api.Entity { return asRow(entity.Drop(l, uid("U::c"))) },
		"Above": func() []api.Entity {
			m, why := entity.Above(l, uid("U::a"))
			return asRow([]api.Entity{{Parents: m}}, why)
		},
	}
	for name, call := range calls {
		first, second := call(), call()
		want := rowAgain(second)
		// Within one answer: what is written over in its first entity is to be seen nowhere else.
		spoilValue(first[0].Attrs)
		if !rowsAlike(first[1:], want[1:]) {
			t.Errorf("%s: two lists of an answer share memory", name)
		}
		inner := call()[0].Attrs
		if len(inner.List) == 2 {
			spoilValue(inner.List[0])
			if !valuesAlike(inner.List[1], want[0].Attrs.List[1]) {
				t.Errorf("%s: two lists of a value share memory", name)
			}
		}
		spoil(first)
		if !rowsAlike(second, want) || !rowsAlike(l[:cap(l)], room) {
			t.Errorf("%s: an answer shares memory, or what was handed in is changed", name)
		}
	}
	kept, _ := entity.Put(l, one("U::d"))
	want := rowAgain(kept)
	spoil(l)
	if !rowsAlike(kept, want) {
		t.Error("what was handed in is kept")
	}
}

// P4.
func TestNoGoroutineIsLeft(t *testing.T) {
	before := runtime.NumGoroutine()
	r := rand.New(rand.NewSource(4))
	for range 200 {
		l, e := anyRow(r, true), anyEntity(r)
		s, _ := entity.Print(e)
		entity.Parse(s)
		entity.Find(l, e.Uid)
		entity.Put(l, e)
		entity.Drop(l, uid("U::a"))
		entity.Above(l, uid("U::a"))
	}
	if after := runtime.NumGoroutine(); after > before {
		t.Errorf("%d goroutines, before %d", after, before)
	}
}
