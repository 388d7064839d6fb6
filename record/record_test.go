package record_test

import (
	"encoding/binary"
	"hash/crc32"
	"math"
	"math/rand"
	"runtime"
	"slices"
	"strings"
	"testing"

	"lictor/api"
	"lictor/crc"
	"lictor/record"
)

// share is how many bytes of a payload a piece has.
const share = 61

// payload is some n bytes, the same ones each time.
func payload(n int) string {
	r := rand.New(rand.NewSource(int64(n)))
	b := make([]byte, n)
	for i := range b {
		b[i] = byte(r.Intn(256))
	}
	return string(b)
}

// lengths are those of payloads at the edges: of pieces, of their places' first byte, of the limit.
func lengths() []int {
	return []int{0, 1, 2, 60, 61, 62, 121, 122, 123, 183, 1000, 256*share - 1, 256 * share, 256*share + 1, 257*share + 1, api.MaxPayload - 1, api.MaxPayload}
}

// frames are right ones: of all lengths, of numbers at their edges, and of payloads that look like sectors.
func frames() []api.Frame {
	out := []api.Frame{
		{Kind: 1},
		{Kind: 255, Epoch: math.MaxUint64, Seq: math.MaxUint64, Payload: "\x00"},
		{Kind: 'H', Epoch: 0x0102030405060708, Seq: 0x1112131415161718, Payload: "a payload"},
		{Kind: 'B', Seq: 1 << 63, Payload: strings.Repeat("\x00", 130)},
		{Kind: 2, Epoch: 1 << 32, Payload: strings.Repeat("\xff", 61)},
		{Kind: 3, Epoch: 5, Seq: 6, Payload: strings.Repeat("H", 61) + strings.Repeat("B", 62)},
	}
	for i, n := range lengths() {
		out = append(out, api.Frame{Kind: uint8(1 + i), Epoch: uint64(n), Seq: uint64(i), Payload: payload(n)})
	}
	return out
}

// sealed is a head's sector of its first 26 bytes: their check sum behind them, and zero bytes.
func sealed(said []byte) string {
	b := make([]byte, api.SectorSize)
	copy(b, said)
	binary.LittleEndian.PutUint32(b[26:], crc32.ChecksumIEEE(b[:26]))
	return string(b)
}

// headBytes are a head's first 26 bytes.
func headBytes(h api.Head) []byte {
	b := []byte{'H', h.Kind}
	b = binary.LittleEndian.AppendUint64(b, h.Epoch)
	b = binary.LittleEndian.AppendUint64(b, h.Seq)
	b = binary.LittleEndian.AppendUint32(b, uint32(h.Len))
	return binary.LittleEndian.AppendUint32(b, h.Sum)
}

// pieceOf is the sector of a payload's part.
func pieceOf(place int, part string) string {
	b := make([]byte, api.SectorSize)
	b[0], b[1], b[2] = 'B', byte(place%256), byte(place/256)
	copy(b[3:], part)
	return string(b)
}

// headOf is what a frame's head says.
func headOf(f api.Frame) api.Head {
	return api.Head{Kind: f.Kind, Epoch: f.Epoch, Seq: f.Seq, Len: len(f.Payload), Sum: crc32.ChecksumIEEE([]byte(f.Payload))}
}

// laid are a frame's sectors as the chapter's words have them, made another way.
func laid(f api.Frame) []string {
	out := []string{sealed(headBytes(headOf(f)))}
	for rest, place := f.Payload, 0; rest != ""; place++ {
		n := min(share, len(rest))
		out = append(out, pieceOf(place, rest[:n]))
		rest = rest[n:]
	}
	return out
}

// sectorsOf is record.Sectors' answer, of a right frame.
func sectorsOf(t *testing.T, f api.Frame) []string {
	t.Helper()
	s, why := record.Sectors(f)
	if why != api.OK {
		t.Fatalf("Sectors of a payload of %d bytes: error %d", len(f.Payload), why)
	}
	return s
}

// noFrame asks that sectors are no frame.
func noFrame(t *testing.T, name string, s []string) {
	t.Helper()
	if f, why := record.Join(s); f != (api.Frame{}) || why != api.ErrForm {
		t.Errorf("%s: a frame of kind %d with %d bytes, error %d", name, f.Kind, len(f.Payload), why)
	}
}

// noHead asks that a sector is no head.
func noHead(t *testing.T, name, s string) {
	t.Helper()
	if h, why := record.Head(s); h != (api.Head{}) || why != api.ErrForm {
		t.Errorf("%s: %v, error %d", name, h, why)
	}
}

// The sections Limits and Errors, as far as they speak of record.
func TestLimitsAndErrors(t *testing.T) {
	if api.SectorSize != 64 || api.MaxPayload != 16384 {
		t.Error("a limit is another one")
	}
	if api.OK != 0 || api.ErrRange != 1 || api.ErrLong != 3 || api.ErrForm != 14 {
		t.Error("an error's number is another one")
	}
}

// Promise 3.1 of Check and Sectors, and P2.
func TestFramesThatAreNotRight(t *testing.T) {
	long := payload(api.MaxPayload + 1)
	for name, x := range map[string]struct {
		f    api.Frame
		want api.Errno
	}{
		"nothing":                    {api.Frame{}, api.ErrRange},
		"kind 0":                     {api.Frame{Epoch: 1, Seq: 2, Payload: "x"}, api.ErrRange},
		"kind 0, as long as may be":  {api.Frame{Payload: long[1:]}, api.ErrRange},
		"kind 0, too long":           {api.Frame{Payload: long}, api.ErrRange},
		"one byte too long":          {api.Frame{Kind: 1, Payload: long}, api.ErrLong},
		"far too long":               {api.Frame{Kind: 255, Payload: strings.Repeat("x", 70000*share)}, api.ErrLong},
		"too long by just one piece": {api.Frame{Kind: 1, Payload: payload(269*share + 1)}, api.ErrLong},
	} {
		if why := record.Check(x.f); why != x.want {
			t.Errorf("%s: Check: error %d", name, why)
		}
		if s, why := record.Sectors(x.f); len(s) != 0 || why != x.want {
			t.Errorf("%s: Sectors: %d of them, error %d", name, len(s), why)
		}
	}
	for _, f := range frames() {
		if why := record.Check(f); why != api.OK {
			t.Errorf("kind %d, %d bytes: error %d", f.Kind, len(f.Payload), why)
		}
	}
}

// Words, and promise 3.1 of Sectors: byte by byte, of frames whose sectors are written out here.
func TestSectorsWrittenOut(t *testing.T) {
	f := api.Frame{Kind: 7, Epoch: 0x0102030405060708, Seq: 258, Payload: "123456789"}
	head := "H\x07" + "\x08\x07\x06\x05\x04\x03\x02\x01" + "\x02\x01\x00\x00\x00\x00\x00\x00" + "\x09\x00\x00\x00" + "\x26\x39\xf4\xcb"
	want := []string{
		head + crc.Put32(crc.Sum(head)) + strings.Repeat("\x00", 34),
		"B\x00\x00123456789" + strings.Repeat("\x00", 52),
	}
	if s := sectorsOf(t, f); !slices.Equal(s, want) {
		t.Errorf("%q", s)
	}
	head = "H\x01" + strings.Repeat("\x00", 24)
	if s := sectorsOf(t, api.Frame{Kind: 1}); len(s) != 1 || s[0] != head+crc.Put32(crc.Sum(head))+strings.Repeat("\x00", 34) {
		t.Errorf("%q", s)
	}
	s := sectorsOf(t, api.Frame{Kind: 1, Payload: strings.Repeat("x", api.MaxPayload)})
	if len(s) != 270 || s[255][:4] != "B\xfe\x00x" || s[256][:4] != "B\xff\x00x" || s[257][:4] != "B\x00\x01x" || s[269] != "B\x0c\x01"+strings.Repeat("x", 36)+strings.Repeat("\x00", 25) {
		t.Errorf("%d sectors", len(s))
	}
}

func TestSectorsAreAsTheWordsHaveThem(t *testing.T) {
	for _, f := range frames() {
		if s := sectorsOf(t, f); !slices.Equal(s, laid(f)) {
			t.Errorf("kind %d, %d bytes: other sectors", f.Kind, len(f.Payload))
		}
	}
}

// Promise 3.1 of Pieces, and example 1.
func TestPieces(t *testing.T) {
	for n, want := range map[int]int{0: 0, 1: 1, 60: 1, 61: 1, 62: 2, 122: 2, 123: 3, 256 * share: 256, 256*share + 1: 257, api.MaxPayload: 269} {
		if got, why := record.Pieces(n); got != want || why != api.OK {
			t.Errorf("Pieces(%d): %d, error %d", n, got, why)
		}
	}
	want, room := 0, 0
	for n := range api.MaxPayload + 1 {
		if n > room {
			want, room = want+1, room+share
		}
		if got, why := record.Pieces(n); got != want || why != api.OK {
			t.Fatalf("Pieces(%d): %d, error %d", n, got, why)
		}
	}
	for _, n := range []int{-1, -61, -62, api.MaxPayload + 1, math.MinInt, math.MinInt + 1, math.MaxInt, math.MaxInt - 60} {
		if got, why := record.Pieces(n); got != 0 || why != api.ErrRange {
			t.Errorf("Pieces(%d): %d, error %d", n, got, why)
		}
	}
}

// Promise 3.1 of Head: what it says; the payload's check sum is not asked.
func TestHead(t *testing.T) {
	heads := []api.Head{
		{Kind: 1},
		{Kind: 1, Sum: 77},
		{Kind: 255, Epoch: math.MaxUint64, Seq: math.MaxUint64, Len: api.MaxPayload, Sum: math.MaxUint32},
		{Kind: 'B', Epoch: 1, Seq: 1 << 40, Len: 1, Sum: 1 << 31},
	}
	for _, f := range frames() {
		heads = append(heads, headOf(f))
		if h, why := record.Head(sectorsOf(t, f)[0]); h != headOf(f) || why != api.OK {
			t.Errorf("%v, error %d", h, why)
		}
	}
	for _, want := range heads {
		if h, why := record.Head(sealed(headBytes(want))); h != want || why != api.OK {
			t.Errorf("%v, not %v, error %d", h, want, why)
		}
	}
}

// Promise 3.1 of Head, P1 and P2: sectors that are no heads, their own check sums being right but where it is said.
func TestSectorsThatAreNoHeads(t *testing.T) {
	right := api.Head{Kind: 3, Epoch: 4, Seq: 5, Len: 6, Sum: 7}
	good := sealed(headBytes(right))
	changed := func(change func(b []byte)) string {
		b := headBytes(right)
		change(b)
		return sealed(b)
	}
	size := func(n uint32) string {
		return changed(func(b []byte) { binary.LittleEndian.PutUint32(b[18:], n) })
	}
	for name, s := range map[string]string{
		"nothing":             "",
		"a byte":              "H",
		"the fields alone":    good[:26],
		"the sums, too":       good[:30],
		"a byte too few":      good[:63],
		"a byte too many":     good + "\x00",
		"twice":               good + good,
		"zero bytes":          strings.Repeat("\x00", 64),
		"full bytes":          strings.Repeat("\xff", 64),
		"a small h":           changed(func(b []byte) { b[0] = 'h' }),
		"a piece's mark":      changed(func(b []byte) { b[0] = 'B' }),
		"kind 0":              changed(func(b []byte) { b[1] = 0 }),
		"a byte more":         size(api.MaxPayload + 1),
		"the greatest int32":  size(math.MaxInt32),
		"one beyond an int32": size(1 << 31),
		"the most":            size(math.MaxUint32),
		"no sum":              good[:26] + "\x00\x00\x00\x00" + good[30:],
		"the sum of 25":       good[:26] + crc.Put32(crc.Sum(good[:25])) + good[30:],
	} {
		noHead(t, name, s)
	}
	for i := 30; i < api.SectorSize; i++ {
		for _, c := range []byte{1, 0x80, 0xff} {
			b := []byte(good)
			b[i] = c
			noHead(t, "no zero byte at its end", string(b))
		}
	}
	for bit := range 8 * api.SectorSize {
		s, why := crc.Flip(good, bit)
		if why != api.OK {
			t.Fatalf("Flip: error %d", why)
		}
		noHead(t, "a bit turned", s)
	}
	if h, why := record.Head(size(api.MaxPayload)); h.Len != api.MaxPayload || why != api.OK {
		t.Errorf("as long as may be: %v, error %d", h, why)
	}
}

// Promises 3.2, 3.4, and P5: there and back.
func TestThereAndBack(t *testing.T) {
	for _, f := range frames() {
		s := sectorsOf(t, f)
		got, why := record.Join(s)
		if got != f || why != api.OK {
			t.Errorf("kind %d, %d bytes: kind %d, %d bytes, error %d", f.Kind, len(f.Payload), got.Kind, len(got.Payload), why)
		}
		if again := sectorsOf(t, got); !slices.Equal(again, s) {
			t.Errorf("kind %d, %d bytes: other sectors", f.Kind, len(f.Payload))
		}
	}
	for n := range 4*share + 2 {
		f := api.Frame{Kind: 9, Epoch: 1, Seq: uint64(n), Payload: payload(n)}
		if got, why := record.Join(sectorsOf(t, f)); got != f || why != api.OK {
			t.Errorf("%d bytes: %d, error %d", n, len(got.Payload), why)
		}
	}
}

// Promise 3.2, P1 and P2: each way in which sectors are no frame.
func TestSectorsThatAreNoFrame(t *testing.T) {
	f := api.Frame{Kind: 1, Epoch: 2, Seq: 3, Payload: payload(2*share + 5)}
	with := func(change func(s []string) []string) []string {
		return change(laid(f))
	}
	at := func(i int, sector string) []string {
		return with(func(s []string) []string { s[i] = sector; return s })
	}
	good := laid(f)
	other := laid(api.Frame{Kind: 1, Epoch: 2, Seq: 3, Payload: payload(2*share + 4)})
	for name, s := range map[string][]string{
		"nil":                      nil,
		"empty":                    {},
		"an empty head":            {""},
		"zero bytes":               {strings.Repeat("\x00", 64)},
		"the head alone":           good[:1],
		"a piece too few":          good[:3],
		"the first piece missing":  with(func(s []string) []string { return slices.Delete(s, 1, 2) }),
		"a piece too many":         with(func(s []string) []string { return append(s, pieceOf(3, "")) }),
		"a sector too many":        with(func(s []string) []string { return append(s, strings.Repeat("\x00", 64)) }),
		"a frame behind it":        append(laid(f), laid(api.Frame{Kind: 1, Epoch: 2, Seq: 4})...),
		"nothing behind it":        with(func(s []string) []string { return append(s, "") }),
		"no head":                  good[1:],
		"the head last":            {good[1], good[2], good[3], good[0]},
		"two heads":                {good[0], good[0], good[1], good[2]},
		"pieces in another order":  {good[0], good[2], good[1], good[3]},
		"a piece twice":            {good[0], good[1], good[1], good[3]},
		"another head":             at(0, other[0]),
		"another last piece":       at(3, other[3]),
		"another place":            at(2, pieceOf(2, f.Payload[share:2*share])),
		"the place's upper byte":   at(2, pieceOf(257, f.Payload[share:2*share])),
		"the place turned round":   at(2, "B\x00\x01"+f.Payload[share:2*share]),
		"another mark":             at(1, "b"+good[1][1:]),
		"a head's mark":            at(1, "H"+good[1][1:]),
		"no mark":                  at(1, "\x00"+good[1][1:]),
		"another payload":          at(1, pieceOf(0, payload(share))),
		"a short piece":            at(1, good[1][:63]),
		"a piece of two bytes":     at(1, good[1][:2]),
		"a long piece":             at(3, good[3]+"\x00"),
		"a piece of nothing":       at(2, ""),
		"not zero at its end":      at(3, good[3][:63]+"\x01"),
		"not zero behind the rest": at(3, pieceOf(2, f.Payload[2*share:]+"\x01")),
	} {
		noFrame(t, name, s)
	}
	noFrame(t, "another check sum", []string{sealed(headBytes(api.Head{Kind: 1, Sum: 1}))})
	noFrame(t, "another check sum", []string{sealed(headBytes(api.Head{Kind: 1, Len: 1, Sum: crc.Sum("a")})), pieceOf(0, "b")})
	noFrame(t, "a head of kind 0", []string{sealed(headBytes(api.Head{}))})
	noFrame(t, "many", slices.Repeat(good, 1000))
}

// Promise 3.2: in a long frame, the place's two bytes are asked of each piece.
func TestPlacesOfALongFrame(t *testing.T) {
	good := laid(api.Frame{Kind: 1, Payload: strings.Repeat("x", api.MaxPayload)})
	for i := 1; i+256 < len(good); i++ {
		s := slices.Clone(good)
		s[i], s[i+256] = s[i+256], s[i]
		noFrame(t, "two pieces changed for each other", s)
	}
}

// Promise 3.5.
func TestPiecesAreNoHeads(t *testing.T) {
	zero := strings.Repeat("\x00", api.SectorSize)
	noHead(t, "zero bytes", zero)
	noFrame(t, "zero bytes", []string{zero})
	for _, f := range frames() {
		s := sectorsOf(t, f)
		for i, p := range s[1:] {
			noHead(t, "a piece", p)
			noFrame(t, "a piece", []string{p})
			if i < 3 {
				noFrame(t, "pieces", s[1+i:])
				lost := slices.Clone(s)
				lost[1+i] = zero
				noFrame(t, "a sector of zero bytes as a piece", lost)
			}
		}
	}
	// A payload that is itself a head's bytes is in a piece that is none.
	for _, p := range laid(api.Frame{Kind: 1, Payload: strings.Repeat(sealed(headBytes(api.Head{Kind: 1})), 3)})[1:] {
		noHead(t, "a piece with a head's bytes", p)
	}
}

// Promise 3.6: each bit of frames that are not too long, and some of the longest one's.
func TestOneBitTurned(t *testing.T) {
	turn := func(s []string, bit int) []string {
		out := slices.Clone(s)
		n := bit / (8 * api.SectorSize)
		b := []byte(out[n])
		b[bit/8%api.SectorSize] ^= 1 << (bit % 8)
		out[n] = string(b)
		return out
	}
	for _, f := range frames() {
		s := sectorsOf(t, f)
		step := 1
		if len(s) > 20 {
			step = 397
		}
		for bit := 0; bit < 8*api.SectorSize*len(s); bit += step {
			if got, why := record.Join(turn(s, bit)); got != (api.Frame{}) || why != api.ErrForm {
				t.Errorf("%d bytes, bit %d: kind %d, error %d", len(f.Payload), bit, got.Kind, why)
			}
		}
	}
}

// Promise 3.3, and P3: what is handed in is neither changed nor kept, and answers share no memory.
func TestNewMemory(t *testing.T) {
	for _, f := range frames() {
		first, second := sectorsOf(t, f), sectorsOf(t, f)
		for i := range first[:cap(first)] {
			first[:cap(first)][i] = "scribbled"
		}
		if !slices.Equal(second, laid(f)) || !slices.Equal(sectorsOf(t, f), second) {
			t.Fatal("an answer shares memory, or is another one")
		}
		// Room behind a list is no matter, and what stands there is not touched.
		given := append(second, "behind", "behind")
		before := slices.Clone(given)
		got, why := record.Join(given[:len(second)])
		if got != f || why != api.OK || !slices.Equal(given, before) {
			t.Error("what was handed in is changed, or the room behind it read")
		}
		clear(given)
		if got != f {
			t.Error("what was handed in is kept")
		}
	}
}

// P4.
func TestNoGoroutineIsLeft(t *testing.T) {
	before := runtime.NumGoroutine()
	for _, f := range frames() {
		s, _ := record.Sectors(f)
		record.Join(s)
		record.Join(s[1:])
		record.Head(s[0])
		record.Check(f)
		record.Pieces(len(f.Payload))
	}
	if after := runtime.NumGoroutine(); after > before {
		t.Errorf("%d goroutines, before %d", after, before)
	}
}
