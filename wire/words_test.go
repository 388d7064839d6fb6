package wire_test

import (
	"encoding/binary"
	"math/rand"
	"reflect"
	"slices"
	"strings"
	"testing"

	"lictor/api"
	"lictor/change"
	"lictor/wire"
)

// This file tells chapter 19's words another way, and holds the package against that.

// pieces takes bytes apart; once something is none, it is not fine any more.
type pieces struct {
	left string
	fine bool
}

// cut are the next n bytes.
func (p *pieces) cut(n int) []byte {
	if !p.fine || n > len(p.left) {
		p.fine = false
		return make([]byte, min(n, 8))
	}
	b := []byte(p.left[:n])
	p.left = p.left[n:]
	return b
}

func (p *pieces) small() int     { return int(p.cut(1)[0]) }
func (p *pieces) number() uint64 { return binary.LittleEndian.Uint64(p.cut(8)) }

func (p *pieces) text() string {
	n := int64(binary.LittleEndian.Uint32(p.cut(4)))
	if p.fine = p.fine && n <= 2048; !p.fine {
		return ""
	}
	return string(p.cut(int(n)))
}

func (p *pieces) texts() []string {
	var l []string
	for range p.small() {
		l = append(l, p.text())
	}
	return l
}

// toldAsk is the request of bytes, and whether they are one's.
func toldAsk(s string) (api.Ask, bool) {
	p := &pieces{s, true}
	a := api.Ask{Kind: api.AskKind(p.small())}
	has := map[api.AskKind]string{1: "", 2: "tc", 3: "t", 4: "t", 5: "q", 6: "vq", 7: "", 8: ""}
	parts, is := has[a.Kind]
	for _, part := range parts {
		switch part {
		case 't':
			a.Tx = p.number()
		case 'v':
			a.Version = p.number()
		case 'q':
			for _, to := range []*string{&a.Principal.Type, &a.Principal.Id, &a.Action.Type, &a.Action.Id, &a.Resource.Type, &a.Resource.Id, &a.Context} {
				*to = p.text()
			}
		case 'c':
			p.fine = p.fine && p.small() == 1
			a.Change.Kind = api.ChangeKind(p.small())
			for _, to := range []*string{&a.Change.Id, &a.Change.Text, &a.Change.Uid.Type, &a.Change.Uid.Id} {
				*to = p.text()
			}
			_, why := change.Pack([]api.Change{a.Change})
			p.fine = p.fine && why == api.OK
		}
	}
	if !is || !p.fine || p.left != "" {
		return api.Ask{}, false
	}
	return a, true
}

// toldReply is the reply of bytes, and whether they are one's.
func toldReply(s string) (api.Reply, bool) {
	p := &pieces{s, true}
	r := api.Reply{Why: api.Errno(p.small()), N: p.number(), Place: p.small()}
	allow := p.small()
	r.Decision = api.Decision{Allow: allow == 1, Ids: p.texts(), Errors: p.texts()}
	if allow > 1 || !p.fine || p.left != "" {
		return api.Reply{}, false
	}
	return r, true
}

// heldAsk holds ReadAsk to the words, and asks that what is read is written as the bytes; it tells whether they are a request's.
func heldAsk(t *testing.T, s string) bool {
	t.Helper()
	want, is := toldAsk(s)
	got, why := wire.ReadAsk(s)
	if got != want || is && why != api.OK || !is && why != api.ErrForm {
		t.Fatalf("ReadAsk of %q: %v, error %d, not %v", s, got, why, want)
	}
	if is {
		if again, why := wire.WriteAsk(got); why != api.OK || again != s {
			t.Fatalf("WriteAsk of %v: %q, error %d, not %q", got, again, why, s)
		}
	}
	return is
}

// heldReply does so of ReadReply.
func heldReply(t *testing.T, s string) bool {
	t.Helper()
	want, is := toldReply(s)
	got, why := wire.ReadReply(s)
	if !sameReply(got, want) || is && why != api.OK || !is && (why != api.ErrForm || !reflect.DeepEqual(got, api.Reply{})) {
		t.Fatalf("ReadReply of %q: %v, error %d, not %v", s, got, why, want)
	}
	if is {
		if again, why := wire.WriteReply(got); why != api.OK || again != s {
			t.Fatalf("WriteReply of %v: %q, error %d, not %q", got, again, why, s)
		}
	}
	return is
}

// Promise 19.1 of ReadAsk, and P2: bytes that are no request's.
func TestBytesThatAreNoAsk(t *testing.T) {
	none, long := zero(28), strings.Repeat("s", 2049)
	one := "\x02\x01" + zero(7)
	for name, s := range map[string]string{
		"nothing": "", "no kind": "\x00", "a kind beyond": "\x09", "another one": "\xff", "kind 0 of a commit": "\x00" + zero(8), "kind 9 of a query": "\x09" + none,
		"a begin with a byte more": "\x01\x00", "two begins": "\x01\x01", "a checkpoint with a Tx": "\x07" + zero(8), "a recovery with a byte more": "\x08\x08",
		"a commit of no Tx": "\x03", "of seven bytes": "\x03" + zero(7), "of nine bytes": "\x03" + zero(9), "an abort of no Tx": "\x04", "an abort of nine bytes": "\x04" + zero(9), "a commit as text": "\x032",
		"no change": one, "no changes": one + "\x00", "two changes": one + "\x02" + strings.Repeat("\x03"+zero(16), 2), "two, of which one is there": one + "\x02\x03" + zero(16), "a change and a byte more": one + "\x01\x03" + zero(17), "a change and one more": one + strings.Repeat("\x01\x03"+zero(16), 2), "a change that is none": one + "\x01\x00" + zero(16), "a change of a kind beyond": one + "\x01\x06" + zero(16), "a schema's Id": one + "\x01\x01\x01\x00\x00\x00x" + zero(12), "a text of 2049": one + "\x01\x03\x01\x08\x00\x00" + long + zero(12), "a change of no Tx": "\x02\x01\x03" + zero(16), "a text of 2^32 - 1": one + "\x01\x03\xff\xff\xff\xff" + zero(12),
		"a query of six texts": "\x05" + zero(24), "of eight": "\x05" + zero(32), "of a byte less": "\x05" + zero(27), "of a byte more": "\x05" + zero(29), "of a version": "\x05" + zero(36), "a text too long for what is there": "\x05" + zero(24) + "\x02\x00\x00\x00x", "a text shorter than what is there": "\x05" + zero(24) + "\x01\x00\x00\x00xy", "2049 bytes": "\x05" + zero(24) + "\x01\x08\x00\x00" + long, "a Principal of 2049": "\x05\x01\x08\x00\x00" + long + zero(24), "2^32 - 1 bytes": "\x05" + zero(24) + "\xff\xff\xff\xff", "2^31 bytes": "\x05" + zero(24) + "\x00\x00\x00\x80", "the other way round": "\x05" + zero(24) + "\x00\x00\x00\x01x", "2^16 bytes": "\x05" + zero(24) + "\x00\x00\x01\x00" + strings.Repeat("s", 1<<16),
		"a version without a query": "\x06" + zero(8), "a query without a version": "\x06" + none, "a version of nine bytes": "\x06" + zero(9) + none, "a text": `{"kind": 1}`, "all ones": strings.Repeat("\xff", 5000), "zero bytes": zero(5000), "ones": strings.Repeat("\x01", 5000),
	} {
		noAsk(t, name, s)
		if heldAsk(t, s) {
			t.Errorf("%s: it is told to be a request's", name)
		}
	}
}

// Promise 19.1 of ReadReply, and P2: bytes that are no reply's.
func TestBytesThatAreNoReply(t *testing.T) {
	long := strings.Repeat("s", 2049)
	for name, s := range map[string]string{
		"nothing": "", "Why alone": "\x00", "a byte less": zero(12), "a byte more": zero(14), "Allow 2": zero(10) + "\x02\x00\x00", "Allow 255": zero(10) + "\xff\x00\x00",
		"an Id that is not there": zero(11) + "\x01\x00", "one that is, of two": zero(11) + "\x02" + zero(4) + "\x00", "255, of which none is there": zero(11) + "\xff\x00", "an Error that is not there": zero(12) + "\x01", "no number of Errors": zero(12), "an Id more": zero(11) + "\x01" + zero(8) + "\x00", "an Error more": zero(12) + "\x01" + zero(8),
		"an Id of 2049": zero(11) + "\x01\x01\x08\x00\x00" + long + "\x00", "an Error of 2049": zero(12) + "\x01\x01\x08\x00\x00" + long, "2^32 - 1 bytes": zero(12) + "\x01\xff\xff\xff\xff", "2^31 bytes": zero(11) + "\x01\x00\x00\x00\x80" + zero(20), "the other way round": zero(12) + "\x01\x00\x00\x00\x01x", "a text": `{"why": 1}`, "all ones": strings.Repeat("\xff", 5000), "zero bytes": zero(5000), "ones": strings.Repeat("\x01", 5000),
	} {
		noReply(t, name, s)
		if heldReply(t, s) {
			t.Errorf("%s: it is told to be a reply's", name)
		}
	}
}

// Promises 19.1 and 19.4: no beginning of a request's bytes is a request's, and none with bytes behind it; likewise of replies.
func TestCutShort(t *testing.T) {
	for s := range asks() {
		for n := range len(s) {
			noAsk(t, "cut short", s[:n])
		}
		for other := range asks() {
			noAsk(t, "with another one behind it", s+other)
			if other != s && strings.HasPrefix(other, s) {
				t.Errorf("%q begins as %q", other, s)
			}
		}
		noAsk(t, "with a byte behind it", s+"\x00")
	}
	for s := range replies() {
		for n := range len(s) {
			noReply(t, "cut short", s[:n])
		}
		noReply(t, "with a byte behind it", s+"\x00")
		noReply(t, "twice", s+s)
	}
}

// Promises 19.1 and 19.3: bytes of which one is another one are none, or others'.
func TestTurnedBytes(t *testing.T) {
	right, none := 0, 0
	count := func(is bool) {
		if is {
			right++
		} else {
			none++
		}
	}
	turn := func(s string, held func(t *testing.T, s string) bool) {
		if len(s) > 400 {
			return
		}
		for i := range len(s) {
			for b := range 256 {
				count(held(t, s[:i]+string([]byte{byte(b)})+s[i+1:]))
			}
		}
	}
	for s := range asks() {
		turn(s, heldAsk)
	}
	for s := range replies() {
		turn(s, heldReply)
	}
	if right < 10000 || none < 10000 {
		t.Errorf("%d are right, %d are none's", right, none)
	}
}

// maker makes things by chance.
type maker struct{ *rand.Rand }

func newMaker(seed int64) maker { return maker{rand.New(rand.NewSource(seed))} }

func (m maker) text() string {
	b := make([]byte, []int{0, 0, 1, 3, 20, 255, 256, 2048}[m.Intn(8)])
	m.Read(b)
	return string(b)
}

func (m maker) uid() api.Uid { return uid(m.text(), m.text()) }

func (m maker) number() uint64 { return m.Uint64() >> m.Intn(65) }

func (m maker) change() api.Change {
	switch kind := api.ChangeKind(1 + m.Intn(5)); kind {
	case api.ChangePolicy:
		return api.Change{Kind: kind, Id: m.text(), Text: m.text()}
	case api.ChangeForget:
		return api.Change{Kind: kind, Id: m.text()}
	case api.ChangeDrop:
		return api.Change{Kind: kind, Uid: m.uid()}
	default:
		return api.Change{Kind: kind, Text: m.text()}
	}
}

// ask is a right request.
func (m maker) ask() api.Ask {
	switch kind := api.AskKind(1 + m.Intn(8)); kind {
	case api.AskChange:
		return changeBy(m.number(), m.change())
	case api.AskCommit, api.AskAbort:
		return api.Ask{Kind: kind, Tx: m.number()}
	case api.AskQuery:
		return query(m.uid(), m.uid(), m.uid(), m.text())
	case api.AskAt:
		return at(m.number(), m.uid(), m.uid(), m.uid(), m.text())
	default:
		return api.Ask{Kind: kind}
	}
}

// reply is a right one.
func (m maker) reply() api.Reply {
	texts := func() []string {
		var l []string
		for range []int{0, 1, 2, 5, 32, 255}[m.Intn(6)] {
			l = append(l, m.text())
		}
		return l
	}
	return api.Reply{Why: api.Errno(m.Intn(256)), N: m.number(), Place: m.Intn(256), Decision: api.Decision{Allow: m.Intn(2) == 0, Ids: texts(), Errors: texts()}}
}

// Promises 19.1, 19.3, 19.4 and P5: by chance, there and back; none is the beginning of another one.
func TestThereAndBack(t *testing.T) {
	m := newMaker(193)
	var all []string
	for range 3000 {
		a := m.ask()
		s, why := wire.WriteAsk(a)
		if why != api.OK || !heldAsk(t, s) {
			t.Fatalf("%v: %q, error %d", a, s, why)
		}
		if back, why := wire.ReadAsk(s); why != api.OK || back != a {
			t.Fatalf("%v: %v, error %d", a, back, why)
		}
		all = append(all, s)
	}
	slices.Sort(all)
	all = slices.Compact(all)
	for i := range len(all) - 1 {
		// What begins as one stands right behind it.
		if strings.HasPrefix(all[i+1], all[i]) {
			t.Fatalf("%q begins as %q", all[i+1], all[i])
		}
	}
	for range 400 {
		r := m.reply()
		s, why := wire.WriteReply(r)
		if why != api.OK || !heldReply(t, s) {
			t.Fatalf("%v: %q, error %d", r, s, why)
		}
		if back, why := wire.ReadReply(s); why != api.OK || !sameReply(back, r) {
			t.Fatalf("%v: %v, error %d", r, back, why)
		}
	}
}

// Promises 19.1 and 19.3: bytes by chance, and such as are mixed of right ones.
func TestBytesByChance(t *testing.T) {
	m := newMaker(191)
	asked, replied := 0, 0
	var some []string
	for s := range asks() {
		some = append(some, s)
	}
	for s := range replies() {
		some = append(some, s)
	}
	slices.Sort(some)
	for range 40000 {
		b := make([]byte, m.Intn(48))
		for i := range b {
			if m.Intn(6) == 0 {
				b[i] = byte(m.Intn(10))
			}
		}
		s := string(b)
		if m.Intn(2) == 0 {
			one, two := some[m.Intn(len(some))], some[m.Intn(len(some))]
			s = one[:m.Intn(len(one)+1)] + two[m.Intn(len(two)+1):]
		}
		if heldAsk(t, s) {
			asked++
		}
		if heldReply(t, s) {
			replied++
		}
	}
	if asked < 400 || replied < 400 {
		t.Errorf("%d are requests', %d replies'", asked, replied)
	}
}

// Promise 19.2, P2 and P3: nothing that is handed in is changed or kept, room behind a list is no matter, and answers share no memory.
func TestNewMemory(t *testing.T) {
	ids, errors := append(decided().Decision.Ids, "room"), append(decided().Decision.Errors, "room")
	given := decided()
	given.Decision.Ids, given.Decision.Errors = ids[:2], errors[:1]
	s, why := wire.WriteReply(given)
	if why != api.OK || s != decidedBytes || !sameReply(given, decided()) || ids[2] != "room" || errors[1] != "room" {
		t.Fatalf("%q, error %d, of %v", s, why, given)
	}
	one, _ := wire.ReadReply(s)
	two, _ := wire.ReadReply(s)
	for _, l := range [][]string{one.Decision.Ids, one.Decision.Errors, given.Decision.Ids} {
		l = l[:cap(l)]
		for i := range l {
			l[i] = "spoilt"
		}
	}
	if !sameReply(two, decided()) || s != decidedBytes {
		t.Error("an answer shares memory")
	}
	alike, _ := wire.ReadReply(zero(11) + "\x01\x01\x00\x00\x00a\x01\x01\x00\x00\x00a")
	alike.Decision.Ids[0] = "spoilt"
	if alike.Decision.Errors[0] != "a" {
		t.Error("two lists of an answer share memory")
	}
}

// P1 and P2: whatever is handed in.
func TestWhateverIsHandedIn(t *testing.T) {
	m := newMaker(1)
	odd := func() string {
		return []string{"", "x", strings.Repeat("y", 2048), strings.Repeat("z", 2049), strings.Repeat("\xff", 1<<12)}[m.Intn(5)]
	}
	numbers := []int{-1 << 63, -256, -1, 0, 1, 255, 256, 1 << 32, 1<<63 - 1}
	for range 3000 {
		a := api.Ask{Kind: api.AskKind(m.Intn(11)), Change: api.Change{Kind: api.ChangeKind(m.Intn(8))}}
		for _, to := range []*string{&a.Change.Id, &a.Change.Text, &a.Change.Uid.Type, &a.Principal.Type, &a.Action.Id, &a.Context} {
			if m.Intn(3) == 0 {
				*to = odd()
			}
		}
		if m.Intn(2) == 0 {
			a.Tx, a.Version = m.number(), m.number()
		}
		s, why := wire.WriteAsk(a)
		if (why == api.OK) != (s != "") || why != api.OK && why != api.ErrForm {
			t.Fatalf("%v: %d bytes, error %d", a, len(s), why)
		}
		if back, no := wire.ReadAsk(s); why == api.OK && (no != api.OK || back != a) {
			t.Fatalf("%v: %v, error %d", a, back, no)
		}
	}
	for range 1000 {
		r := api.Reply{Why: api.Errno(numbers[m.Intn(9)]), N: m.number(), Place: numbers[m.Intn(9)]}
		r.Decision.Ids, r.Decision.Errors = slices.Repeat([]string{odd()}, []int{0, 1, 5, 255, 256, 600}[m.Intn(6)]), slices.Repeat([]string{odd()}, m.Intn(20))
		s, why := wire.WriteReply(r)
		if (why == api.OK) != (s != "") || why != api.OK && why != api.ErrForm {
			t.Fatalf("%v: %d bytes, error %d", r, len(s), why)
		}
		if back, no := wire.ReadReply(s); why == api.OK && (no != api.OK || !sameReply(back, r)) {
			t.Fatalf("%v: %v, error %d", r, back, no)
		}
	}
}
