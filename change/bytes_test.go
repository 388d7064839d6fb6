package change_test

import (
	"encoding/binary"
	"math/rand"
	"reflect"
	"slices"
	"strings"
	"testing"

	"lictor/api"
	"lictor/change"
)

// one is a change of each kind.
func one() []api.Change {
	return list(schemaIs("x"), policyIs("id", "text"), forget("f"), entityIs("\xff\x00"), drop("User", "b"))
}

// oneBytes are its bytes.
const oneBytes = "\x05" +
	"\x01" + "\x00\x00\x00\x00" + "\x01\x00\x00\x00x" + "\x00\x00\x00\x00" + "\x00\x00\x00\x00" +
	"\x02" + "\x02\x00\x00\x00id" + "\x04\x00\x00\x00text" + "\x00\x00\x00\x00" + "\x00\x00\x00\x00" +
	"\x03" + "\x01\x00\x00\x00f" + "\x00\x00\x00\x00" + "\x00\x00\x00\x00" + "\x00\x00\x00\x00" +
	"\x04" + "\x00\x00\x00\x00" + "\x02\x00\x00\x00\xff\x00" + "\x00\x00\x00\x00" + "\x00\x00\x00\x00" +
	"\x05" + "\x00\x00\x00\x00" + "\x00\x00\x00\x00" + "\x04\x00\x00\x00User" + "\x01\x00\x00\x00b"

// Promise 16.2 of Pack and Unpack, and words: a list's bytes.
func TestBytes(t *testing.T) {
	nothing := strings.Repeat("\x00", 16)
	for name, c := range map[string]struct {
		l     []api.Change
		bytes string
	}{
		"none": {nil, "\x00"}, "one of each kind": {one(), oneBytes}, "fields that are empty": {list(schemaIs(""), policyIs("", ""), forget(""), entityIs(""), drop("", "")), "\x05\x01" + nothing + "\x02" + nothing + "\x03" + nothing + "\x04" + nothing + "\x05" + nothing}, "255": {slices.Repeat(list(forget("")), 255), "\xff" + strings.Repeat("\x03"+nothing, 255)},
		"a text of 258 bytes": {list(entityIs(strings.Repeat("e", 258))), "\x01\x04\x00\x00\x00\x00\x02\x01\x00\x00" + strings.Repeat("e", 258) + "\x00\x00\x00\x00\x00\x00\x00\x00"}, "a text of 2048 bytes": {list(forget(strings.Repeat("f", 2048))), "\x01\x03\x00\x08\x00\x00" + strings.Repeat("f", 2048) + strings.Repeat("\x00", 12)},
	} {
		if s, why := change.Pack(c.l); why != api.OK || s != c.bytes {
			t.Errorf("Pack, %s: %q, error %d", name, s, why)
		}
		if l, why := change.Unpack(c.bytes); why != api.OK || !slices.Equal(l, c.l) {
			t.Errorf("Unpack, %s: %v, error %d", name, l, why)
		}
	}
	if s, why := change.Pack([]api.Change{}); why != api.OK || s != "\x00" {
		t.Errorf("Pack of an empty list: %q, error %d", s, why)
	}
}

// Promise 16.2 of Pack, P2 and P3: what has no bytes; too many ahead of one that is not right, and that ahead of a text that is too long.
func TestErrorsOfPack(t *testing.T) {
	fits, long := strings.Repeat("s", 2048), strings.Repeat("s", 2049)
	fine, bad := forget("f"), api.Change{}
	for name, c := range map[string]struct {
		l    []api.Change
		want api.Errno
	}{
		"255": {slices.Repeat(list(fine), 255), api.OK}, "256": {slices.Repeat(list(fine), 256), api.ErrMany}, "512": {slices.Repeat(list(fine), 512), api.ErrMany}, "256 that are not right": {make([]api.Change, 256), api.ErrMany}, "256 that are too long": {slices.Repeat(list(entityIs(long)), 256), api.ErrMany}, "255 that are not right": {make([]api.Change, 255), api.ErrSyntax},
		"a schema of 2048": {list(schemaIs(fits)), api.OK}, "a schema of 2049": {list(schemaIs(long)), api.ErrLong}, "a policy of 2048": {list(policyIs(fits, fits)), api.OK}, "a policy of 2049": {list(policyIs("p", long)), api.ErrLong}, "a policy's Id of 2049": {list(policyIs(long, "p")), api.ErrLong}, "an Id of 2049": {list(forget(long)), api.ErrLong}, "an entity of 2049": {list(entityIs(long)), api.ErrLong}, "a Uid of 2048": {list(drop(fits, fits)), api.OK}, "a type of 2049": {list(drop(long, "")), api.ErrLong}, "a Uid's id of 2049": {list(drop("", long)), api.ErrLong}, "the last one": {list(fine, fine, entityIs(long)), api.ErrLong},
		"not right behind too long": {list(entityIs(long), bad), api.ErrSyntax}, "too long behind not right": {list(bad, entityIs(long)), api.ErrSyntax}, "both": {list(api.Change{Kind: api.ChangeForget, Text: long}), api.ErrSyntax},
	} {
		if s, why := change.Pack(c.l); why != c.want || (why == api.OK) != (s != "") {
			t.Errorf("%s: %d bytes, error %d, not %d", name, len(s), why, c.want)
		}
	}
	for i, c := range badKinds() {
		for _, l := range [][]api.Change{list(c), list(fine, c), list(c, fine)} {
			if s, why := change.Pack(l); why != api.ErrSyntax || s != "" {
				t.Errorf("%d, %v: %q, error %d", i, c, s, why)
			}
		}
	}
}

// toldBytes tells a list of bytes another way: what they say, and whether they are a list's.
func toldBytes(s string) ([]api.Change, bool) {
	var l []api.Change
	if s == "" {
		return nil, false
	}
	n := int(s[0])
	s = s[1:]
	for range n {
		if s == "" {
			return nil, false
		}
		kind := api.ChangeKind(s[0])
		s = s[1:]
		var texts [4]string
		for i := range texts {
			if len(s) < 4 {
				return nil, false
			}
			size := binary.LittleEndian.Uint32([]byte(s))
			if s = s[4:]; size > 2048 || int(size) > len(s) {
				return nil, false
			}
			texts[i], s = s[:size], s[size:]
		}
		has := map[api.ChangeKind][]int{1: {1}, 2: {0, 1}, 3: {0}, 4: {1}, 5: {2, 3}}[kind]
		for i := range texts {
			if texts[i] != "" && !slices.Contains(has, i) {
				return nil, false
			}
		}
		if has == nil {
			return nil, false
		}
		l = append(l, api.Change{Kind: kind, Id: texts[0], Text: texts[1], Uid: api.Uid{Type: texts[2], Id: texts[3]}})
	}
	return l, s == ""
}

// unpacked holds Unpack to that; whether the bytes are a list's.
func unpacked(t *testing.T, s string) bool {
	t.Helper()
	want, right := toldBytes(s)
	l, why := change.Unpack(s)
	switch {
	case !right && (why != api.ErrForm || l != nil):
		t.Fatalf("%q: %v, error %d", s, l, why)
	case right && (why != api.OK || !slices.Equal(l, want)):
		t.Fatalf("%q: %v, error %d, not %v", s, l, why, want)
	}
	if right {
		if again, why := change.Pack(l); why != api.OK || again != s {
			t.Fatalf("%q: packed again %q, error %d", s, again, why)
		}
	}
	return right
}

// Promise 16.2 of Unpack, and P2: bytes that are no list's.
func TestBytesThatAreNone(t *testing.T) {
	zero, nothing := "\x00\x00\x00\x00", strings.Repeat("\x00", 16)
	long := strings.Repeat("s", 2049)
	for name, s := range map[string]string{
		"nothing": "", "one that is not there": "\x01", "two of which one is there": "\x02\x03" + nothing, "none of which one is there": "\x00\x03" + nothing, "bytes behind": "\x01\x03" + nothing + "\x00", "bytes behind none": "\x00\x00",
		"no kind": "\x01\x00" + nothing, "a kind that is none": "\x01\x06" + nothing, "another one": "\x01\xff" + nothing, "kind ahead of a kind": "\x02\x03" + nothing + "\x00" + nothing,
		"a schema's Id": "\x01\x01\x01\x00\x00\x00x" + zero + zero + zero, "a schema's Uid": "\x01\x01" + zero + zero + "\x01\x00\x00\x00x" + zero, "a policy's Uid": "\x01\x02" + zero + zero + zero + "\x01\x00\x00\x00x", "a forgotten one's text": "\x01\x03" + zero + "\x01\x00\x00\x00x" + zero + zero, "an entity's Id": "\x01\x04\x01\x00\x00\x00x" + zero + zero + zero, "a dropped one's Id": "\x01\x05\x01\x00\x00\x00x" + zero + zero + zero, "a dropped one's text": "\x01\x05" + zero + "\x01\x00\x00\x00x" + zero + zero,
		"2049 bytes": "\x01\x03\x01\x08\x00\x00" + long + zero + zero + zero, "more than there are": "\x01\x03\x02\x00\x00\x00x", "2^32 - 1 bytes": "\x01\x03\xff\xff\xff\xffx" + zero + zero + zero, "2^31 bytes": "\x01\x03\x00\x00\x00\x80x" + zero + zero + zero, "all the rest": "\x01\x03\x0c\x00\x00\x00" + zero + zero + zero, "a number cut off": "\x01\x03\x00\x00", "the other way round": "\x01\x03\x00\x00\x00\x01x" + zero + zero + zero,
		"a list as text": `[]`, "two lists": oneBytes + oneBytes,
	} {
		if l, why := change.Unpack(s); why != api.ErrForm || l != nil {
			t.Errorf("%s: %v, error %d", name, l, why)
		}
		if unpacked(t, s) {
			t.Errorf("%s: it is told to be right", name)
		}
	}
	for i := range len(oneBytes) {
		if unpacked(t, oneBytes[:i]) || unpacked(t, oneBytes[i+1:]) {
			t.Errorf("its first %d bytes, or those behind, are a list's", i)
		}
	}
}

// Promises 16.2 and 16.5: bytes with one byte another one are none, or another list's.
func TestTurnedBytes(t *testing.T) {
	right := 0
	for i := range len(oneBytes) {
		for b := range 256 {
			s := oneBytes[:i] + string([]byte{byte(b)}) + oneBytes[i+1:]
			if l, _ := change.Unpack(s); unpacked(t, s) {
				right++
				if slices.Equal(l, one()) != (s == oneBytes) {
					t.Fatalf("%q: %v", s, l)
				}
			}
		}
	}
	if right < 2000 {
		t.Errorf("%d are a list's", right)
	}
}

// Promise 16.5: lists by chance are there and back; bytes by chance are none, or back again.
func TestThereAndBack(t *testing.T) {
	r := rand.New(rand.NewSource(165))
	text := func() string {
		b := make([]byte, []int{0, 1, 3, 20, 255, 256, 2048}[r.Intn(7)])
		r.Read(b)
		return string(b)
	}
	for range 2000 {
		var l []api.Change
		for range r.Intn(20) {
			l = append(l, []func() api.Change{
				func() api.Change { return schemaIs(text()) }, func() api.Change { return policyIs(text(), text()) }, func() api.Change { return forget(text()) }, func() api.Change { return entityIs(text()) }, func() api.Change { return drop(text(), text()) },
			}[r.Intn(5)]())
		}
		s, why := change.Pack(l)
		if why != api.OK || !unpacked(t, s) {
			t.Fatalf("%v: %q, error %d", l, s, why)
		}
		if back, why := change.Unpack(s); why != api.OK || !slices.Equal(back, l) {
			t.Fatalf("%v: %v, error %d", l, back, why)
		}
		b := []byte(s)
		for range r.Intn(3) + 1 {
			b[r.Intn(len(b))] = byte(r.Intn(7))
		}
		unpacked(t, string(b))
	}
	right := 0
	for range 20000 {
		b := make([]byte, r.Intn(40))
		for i := range b {
			if r.Intn(6) == 0 {
				b[i] = byte(r.Intn(6))
			}
		}
		if unpacked(t, string(b)) {
			right++
		}
	}
	if right < 100 {
		t.Errorf("%d of the bytes are a list's", right)
	}
}

// Promise 16.3 of Pack and Unpack.
func TestNewMemoryOfLists(t *testing.T) {
	l := one()
	s, _ := change.Pack(l)
	first, _ := change.Unpack(s)
	second, _ := change.Unpack(s)
	if !slices.Equal(l, one()) || shared(reflect.ValueOf(first)) {
		t.Error("what was handed in is changed, or two lists share memory")
	}
	spoil(reflect.ValueOf(first))
	spoil(reflect.ValueOf(l))
	if !slices.Equal(second, one()) || s != oneBytes {
		t.Error("an answer shares memory")
	}
}
