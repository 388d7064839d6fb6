package window_test

import (
	"slices"
	"strconv"
	"strings"
	"testing"

	"lictor/api"
	"lictor/change"
	"lictor/crc"
	"lictor/entity"
	"lictor/fresh"
	"lictor/policy"
	"lictor/schema"
	"lictor/window"
)

// packedList are the bytes of a list of changes.
func packedList(t *testing.T, l []api.Change) string {
	t.Helper()
	s, why := change.Pack(l)
	if why != api.OK {
		t.Fatalf("Pack of %v: error %d", l, why)
	}
	return s
}

// bytesOf are bytes as versions have them: of the first one's number, its changes, and lists.
func bytesOf(t *testing.T, first uint64, made []api.Change, lists ...[]api.Change) string {
	t.Helper()
	s := crc.Put64(first) + packedList(t, made) + string([]byte{byte(len(lists))})
	for _, l := range lists {
		s += packedList(t, l)
	}
	return s
}

// packed are the bytes of versions.
func packed(t *testing.T, v api.Versions) string {
	t.Helper()
	s, why := window.Pack(v)
	if why != api.OK {
		t.Fatalf("Pack of %v: error %d", v, why)
	}
	return s
}

// noForm asks that bytes are no versions'.
func noForm(t *testing.T, name, s string) {
	t.Helper()
	if v, why := window.Unpack(s); !none(v) || why != api.ErrForm {
		t.Errorf("%s: %v, error %d", name, v, why)
	}
}

// thereAndBack asks that versions are read again of their bytes.
func thereAndBack(t *testing.T, name string, v api.Versions) {
	t.Helper()
	s := packed(t, v)
	w, why := window.Unpack(s)
	if why != api.OK || !same(v, w) || window.Check(w) != api.OK {
		t.Errorf("%s: %v, not %v, error %d", name, w, v, why)
	}
	if again := packed(t, w); again != s {
		t.Errorf("%s: %q, not %q", name, again, s)
	}
}

// Words, and promise 17.3 of Pack: the bytes, one by one.
func TestBytes(t *testing.T) {
	if s := packed(t, window.New()); s != strings.Repeat("\x00", 10) {
		t.Errorf("New: %q", s)
	}
	v := committed(t, window.New(), nil, list(forgetful()...))
	none := "\x00\x00\x00\x00"
	want := "\x00\x00\x00\x00\x00\x00\x00\x00" + "\x00" + "\x02" + "\x00" + "\x02" +
		"\x02" + "\x01\x00\x00\x00p" + string([]byte{byte(len(open)), 0, 0, 0}) + open + none + none +
		"\x03" + "\x01\x00\x00\x00p" + none + none + none
	if s := packed(t, v); s != want {
		t.Errorf("%q, not %q", s, want)
	}
	v = full(t)
	v.First = 0x0102030405060708
	made, _ := change.Make(v.States[0])
	s := packed(t, v)
	if s != bytesOf(t, v.First, made, v.Lists...) || !strings.HasPrefix(s, "\x08\x07\x06\x05\x04\x03\x02\x01\x08\x01") {
		t.Errorf("%q", s)
	}
	v.States[1], v.States[2], v.States[3] = api.State{}, api.State{Policies: make([]api.Named, 1)}, v.States[0]
	if again := packed(t, v); again != s {
		t.Errorf("states behind the first one are looked at: %q", again)
	}
}

// forgetful are a policy, and that it is no more.
func forgetful() []api.Change { return list(policyIs("p", open), forget("p")) }

// Promise 17.3 of Pack, and P2: the first state's error, then those of the lists, in order.
func TestWhatPackRefuses(t *testing.T) {
	right, wrong := full(t).States[0], api.State{Policies: make([]api.Named, 1)}
	many, odd, long := slices.Repeat(list(forget("p")), 256), list(api.Change{}), list(policyIs("p", strings.Repeat(" ", 2049)))
	for name, x := range map[string]struct {
		s    api.State
		l    [][]api.Change
		want api.Errno
	}{
		"a first state not right":       {wrong, nil, api.ErrState},
		"that, and lists that are none": {wrong, [][]api.Change{many, odd, long}, api.ErrState},
		"too many":                      {right, [][]api.Change{many}, api.ErrMany},
		"none":                          {right, [][]api.Change{odd}, api.ErrSyntax},
		"too long":                      {right, [][]api.Change{long}, api.ErrLong},
		"too long, and none":            {right, [][]api.Change{nil, long, odd}, api.ErrLong},
		"none, and too many":            {right, [][]api.Change{odd, many, long}, api.ErrSyntax},
		"too many, and too long":        {right, [][]api.Change{nil, many, long}, api.ErrMany},
		"the last one":                  {right, [][]api.Change{nil, nil, odd}, api.ErrSyntax},
		"255, which may not be done":    {right, [][]api.Change{many[1:]}, api.OK},
		"2048 bytes, which are none":    {right, [][]api.Change{list(policyIs("p", long[0].Text[1:]))}, api.OK},
		"an Id that is too long":        {right, [][]api.Change{list(forget(long[0].Text))}, api.ErrLong},
		"a Uid that is too long":        {right, [][]api.Change{list(drop("T", long[0].Text))}, api.ErrLong},
	} {
		v := api.Versions{States: append([]api.State{x.s}, make([]api.State, len(x.l))...), Lists: x.l}
		s, why := window.Pack(v)
		if why != x.want || (s == "") != (why != api.OK) {
			t.Errorf("%s: %q, error %d", name, s, why)
		}
		if why == api.OK {
			noForm(t, name, s)
		}
	}
}

// Promises 17.3, 17.6 and P5: there and back, at the edges.
func TestThereAndBack(t *testing.T) {
	all := full(t)
	for _, first := range []uint64{0, 1, 255, 1 << 32, 1<<63 - 1, 1 << 63} {
		for from := range 4 {
			for to := from + 1; to <= 4; to++ {
				thereAndBack(t, "some of the house", api.Versions{First: first, States: all.States[from:to], Lists: all.Lists[from : to-1]})
			}
		}
	}
	thereAndBack(t, "New", window.New())
	thereAndBack(t, "nothing, four times", committed(t, window.New(), nil, nil, nil, nil))
	// Their own texts are kept of lists, the printed ones of the first state.
	loose := list(policyIs("p", "permit ( principal,action , resource ) ;// all"), schemaIs("entity  U{ }"+";"))
	v := committed(t, window.New(), loose)
	thereAndBack(t, "a list of other texts", v)
	v = committed(t, v, nil, nil, nil)
	thereAndBack(t, "that list's state first", v)
	if v.First != 1 || packed(t, v) == bytesOf(t, 1, loose, nil, nil, nil) {
		t.Error("the first state has the texts of its list")
	}
}

// crowd is a state with as many entities and policies as may be; each entity names one that stands behind it.
func crowd(t *testing.T) api.State {
	t.Helper()
	var s api.State
	s.Schema, _, _ = schema.Parse("entity A in [A] {b: A};")
	for i := range 64 {
		e, why, _ := entity.Parse(`A::"` + strconv.Itoa(100+i) + `" {b: A::"` + strconv.Itoa(163-i) + `"};`)
		if why != api.OK {
			t.Fatalf("error %d", why)
		}
		s.Entities = append(s.Entities, e)
	}
	for i := range 32 {
		p, why, _ := policy.Parse(`forbid(principal == A::"` + strconv.Itoa(100+i) + `", action, resource);`)
		if why != api.OK {
			t.Fatalf("error %d", why)
		}
		s.Policies = append(s.Policies, api.Named{Id: strconv.Itoa(100 + i), Policy: p})
	}
	return s
}

// Promises 17.3 and 17.6: a first state whose changes are more than a transaction has, and do not fit some at a time.
func TestACrowd(t *testing.T) {
	v := api.Versions{States: []api.State{crowd(t)}}
	if why := window.Check(v); why != api.OK {
		t.Fatalf("Check: error %d", why)
	}
	made, _ := change.Make(v.States[0])
	if len(made) != 97 {
		t.Errorf("%d changes", len(made))
	}
	thereAndBack(t, "alone", v)
	thereAndBack(t, "with a commit", committed(t, v, list(forget("100"), forget("101"))))
	thereAndBack(t, "with three", committed(t, v, nil, list(forget("102")), list(policyIs("a", open))))
	noForm(t, "an entity too few", bytesOf(t, 0, made[:40]))
	noForm(t, "a list of as many changes", bytesOf(t, 0, nil, made))
}

// Promise 17.3 of Unpack, and P2: bytes that Pack would not answer, each for another reason.
func TestWhatUnpackRefuses(t *testing.T) {
	all := full(t)
	made, _ := change.Make(all.States[0])
	if len(made) != 8 || made[0].Kind != api.ChangeSchema || made[1].Text != `Doc::"d" in [] {owner: User::"a"};` || made[5].Id != "near" {
		t.Fatalf("%v", made)
	}
	swapped := slices.Clone(made)
	swapped[1], swapped[2] = swapped[2], swapped[1]
	loose := slices.Clone(made)
	loose[1].Text += " "
	right := bytesOf(t, 2, made, all.Lists...)
	thereAndBack(t, "what is spoilt below", all)
	for name, s := range map[string]string{
		"nothing": "", "a first one too great": bytesOf(t, 1<<63+1, made), "the greatest first one": bytesOf(t, 1<<64-1, nil),
		"no list": crc.Put64(0), "no number of lists": crc.Put64(0) + "\x00", "a list too few": bytesOf(t, 0, made)[:len(bytesOf(t, 0, made))-1] + "\x01", "four lists": bytesOf(t, 0, nil, nil, nil, nil, nil), "255 lists": bytesOf(t, 0, nil, make([][]api.Change, 255)...),
		"a byte more": right + "\x00", "once more": right + right, "a list more": bytesOf(t, 0, nil, nil) + "\x00", "other texts": bytesOf(t, 0, loose), "another order": bytesOf(t, 0, swapped), "policies first": bytesOf(t, 0, append(slices.Clone(made[5:]), made[:5]...)),
		"an entity twice": bytesOf(t, 0, append(slices.Clone(made[:2]), made[1:]...)), "a policy there and gone": bytesOf(t, 0, append(slices.Clone(made), forgetful()...)), "an empty schema": bytesOf(t, 0, list(schemaIs(""))), "a schema twice": bytesOf(t, 0, append(list(schemaIs("")), made...)),
		"an entity that is not there": bytesOf(t, 0, made[:2]), "no schema": bytesOf(t, 0, made[1:]), "a policy that does not fit": bytesOf(t, 0, append(slices.Clone(made), policyIs("q", "permit (principal, action, resource) when { 1 };"))), "a policy of nobody": bytesOf(t, 0, list(policyIs("q", "permit (principal == A::\"none\", action, resource);"))), "a forgotten one": bytesOf(t, 0, list(forget("p"))), "a text that is none": bytesOf(t, 0, list(policyIs("p", "permit"))), "an Id that is none": bytesOf(t, 0, list(policyIs("", open))),
		"a list that may not be done": bytesOf(t, 0, made, list(forget("none"))), "that, the second one": bytesOf(t, 0, made, nil, list(forget("none"))), "a list behind which nothing fits": bytesOf(t, 0, made, list(drop("User", "a"))), "17 changes": bytesOf(t, 0, made, slices.Repeat(list(policyIs("p", open)), 17)), "255 changes": bytesOf(t, 0, slices.Repeat(list(policyIs("p", open)), 255)),
		"a change of no kind": crc.Put64(0) + "\x01\x00" + strings.Repeat("\x00", 16) + "\x00", "a change of no kind in a list": crc.Put64(0) + "\x00\x01\x01\x06" + strings.Repeat("\x00", 16), "a text as long as may be": crc.Put64(0) + "\x01\x02\xff\xff\xff\xff" + strings.Repeat("\x00", 300), "all ones": strings.Repeat("\xff", 5000), "zero bytes": strings.Repeat("\x00", 11), "too few of them": strings.Repeat("\x00", 9),
	} {
		noForm(t, name, s)
	}
	for n := range len(right) {
		noForm(t, "cut short", right[:n])
	}
}

// split are the bytes of lists of changes with which s begins, so many, and what is behind them: the first list is the one beginning of s that is a list's, as none is the beginning of another one.
func split(s string, n int) ([][]api.Change, string, bool) {
	var lists [][]api.Change
	for range n {
		size := -1
		for i := range len(s) + 1 {
			if l, why := change.Unpack(s[:i]); why == api.OK {
				lists, size = append(lists, l), i
				break
			}
		}
		if size < 0 {
			return nil, "", false
		}
		s = s[size:]
	}
	return lists, s, true
}

// toldOf are the versions of bytes, told another way.
func toldOf(s string) (api.Versions, bool) {
	if len(s) < 8 {
		return api.Versions{}, false
	}
	first, _ := crc.Get64(s[:8])
	made, rest, ok := split(s[8:], 1)
	if !ok || rest == "" || rest[0] > 3 || first > 1<<63 {
		return api.Versions{}, false
	}
	lists, rest, ok := split(rest[1:], int(rest[0]))
	state, why, _ := change.Do(api.State{}, made[0])
	again, no := change.Make(state)
	if !ok || rest != "" || why != api.OK || no != api.OK || !slices.Equal(again, made[0]) {
		return api.Versions{}, false
	}
	v := api.Versions{First: first, States: []api.State{state}, Lists: lists}
	for _, l := range lists {
		if state, why, _ = change.Apply(state, l); why != api.OK {
			return api.Versions{}, false
		}
		v.States = append(v.States, state)
	}
	return v, true
}

// Promises 17.3 and 17.6: bytes of which one bit is turned, or which are mixed by chance, against the words.
func TestTurnedBytes(t *testing.T) {
	m := newMaker(173)
	v := committed(t, window.New(), list(schemaIs("entity A {n: Long};"), entityIs(`A::"x" {n: 1};`)), list(policyIs("p", open)), list(forget("p")))
	one := packed(t, v)
	two := packed(t, committed(t, v, list(entityIs(`A::"x" {n: 2};`), drop("A", "x"))))
	seen := map[bool]int{}
	held := func(s string) {
		want, ok := toldOf(s)
		got, why := window.Unpack(s)
		if ok != (why == api.OK) || !same(got, want) || !ok && why != api.ErrForm {
			t.Fatalf("%q: %v, error %d, not %v", s, got, why, want)
		}
		if ok && packed(t, got) != s {
			t.Fatalf("%q: packed as %q", s, packed(t, got))
		}
		seen[ok]++
	}
	for i := range 8 * len(one) {
		s, _ := crc.Flip(one, i)
		held(s)
	}
	for range 1500 {
		s := m.one(one, two)
		for range m.Intn(3) {
			other, from, to := m.one(one, two), m.Intn(len(s)), m.Intn(len(s))
			s = s[:from] + other[min(to, len(other)):]
		}
		held(s)
	}
	if seen[true] < 150 || seen[false] < 1000 {
		t.Errorf("%d are versions', %d are none's", seen[true], seen[false])
	}
}

// Promises 17.4, and P3: what is read of bytes is the same each time, in new memory.
func TestUnpackAnswersNewMemory(t *testing.T) {
	v := full(t)
	s := packed(t, v)
	one, _ := window.Unpack(s)
	two, _ := window.Unpack(s)
	spoilVersions(&one)
	if !same(two, v) || packed(t, v) != s {
		t.Error("an answer shares memory")
	}
	apart(t, "Unpack", fresh.Versions(two), two)
}
