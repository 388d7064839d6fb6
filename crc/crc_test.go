package crc_test

import (
	"hash/crc32"
	"math"
	"math/bits"
	"math/rand"
	"runtime"
	"strings"
	"testing"

	"lictor/api"
	"lictor/crc"
)

// texts are some of many lengths, the same ones each time.
func texts() []string {
	out := []string{"", "\x00", "\xff", "a", "ab", "123456789", "\x80\x00\x00\x00", strings.Repeat("\x00", 64), strings.Repeat("\xff", 64), "Zoë \xc3\x28"}
	r := rand.New(rand.NewSource(1))
	for n := range 130 {
		b := make([]byte, n)
		for i := range b {
			b[i] = byte(r.Intn(256))
		}
		out = append(out, string(b))
	}
	return append(out, strings.Repeat("payload ", api.MaxPayload/8))
}

// numbers are those at the edges of each bit, and some others.
func numbers() []uint64 {
	out := []uint64{0, 258, 0x0123456789abcdef, 0xfedcba9876543210, math.MaxUint64}
	for i := range 64 {
		out = append(out, 1<<i, 1<<i-1, 1<<i+1, ^uint64(1<<i))
	}
	r := rand.New(rand.NewSource(2))
	for range 200 {
		out = append(out, r.Uint64())
	}
	return out
}

// Promise 1.1 of Sum, and example 1.
func TestSumOfKnownTexts(t *testing.T) {
	known := map[string]uint32{
		"":                           0,
		"a":                          0xe8b7be43,
		"abc":                        0x352441c2,
		"message digest":             0x20159d7f,
		"abcdefghijklmnopqrstuvwxyz": 0x4c2750bd,
		"123456789":                  0xcbf43926,
		"\x00":                       0xd202ef8d,
		"\xff":                       0xff000000,
		strings.Repeat("\x00", 32):   0x190a55ad,
		strings.Repeat("\xff", 32):   0xff6cab0b,
	}
	for s, want := range known {
		if n := crc.Sum(s); n != want {
			t.Errorf("Sum(%q) is %08x, not %08x", s, n, want)
		}
	}
}

func TestSumIsThatOfIEEE(t *testing.T) {
	for _, s := range texts() {
		if n, want := crc.Sum(s), crc32.ChecksumIEEE([]byte(s)); n != want {
			t.Errorf("Sum(%q) is %08x, not %08x", s, n, want)
		}
	}
}

// Promise 1.1 of More: of any check sum, whether or not we know a text that has it.
func TestMoreOfAnySum(t *testing.T) {
	for _, c := range []uint32{0, 1, 0x80000000, 0xcbf43926, 0xedb88320, math.MaxUint32} {
		if n := crc.More(c, ""); n != c {
			t.Errorf("More(%08x, nothing) is %08x", c, n)
		}
		for _, s := range texts() {
			if n, want := crc.More(c, s), crc32.Update(c, crc32.IEEETable, []byte(s)); n != want {
				t.Errorf("More(%08x, %q) is %08x, not %08x", c, s, n, want)
			}
		}
	}
}

// Promise 1.3.
func TestOneBehindTheOther(t *testing.T) {
	all := texts()
	for i, a := range all {
		b := all[(i*7+3)%len(all)]
		if n, want := crc.More(crc.Sum(a), b), crc.Sum(a+b); n != want {
			t.Errorf("%q behind %q: %08x, not %08x", b, a, n, want)
		}
	}
	const s = "one text that is cut anywhere"
	for i := range len(s) + 1 {
		if n := crc.More(crc.Sum(s[:i]), s[i:]); n != crc.Sum(s) {
			t.Errorf("cut at %d: %08x", i, n)
		}
		c := uint32(0)
		for j := range i {
			c = crc.More(c, s[j:j+1])
		}
		if c != crc.Sum(s[:i]) {
			t.Errorf("byte by byte up to %d: %08x", i, c)
		}
	}
}

// turned is s with some bits turned, by crc.Flip.
func turned(t *testing.T, s string, places ...int) string {
	t.Helper()
	for _, bit := range places {
		next, why := crc.Flip(s, bit)
		if why != api.OK {
			t.Fatalf("Flip(%q, %d): error %d", s, bit, why)
		}
		s = next
	}
	return s
}

// Promise 1.4.
func TestTurnedBitsAreSeen(t *testing.T) {
	for _, s := range []string{"\x00", "ab", "123456789", strings.Repeat("\x00", 20), strings.Repeat("\xff", 20), strings.Repeat("lictor", 11)} {
		sum, width := crc.Sum(s), 8*len(s)
		for i := range width {
			if crc.Sum(turned(t, s, i)) == sum {
				t.Errorf("%q: bit %d turned is not seen", s, i)
			}
			for j := i + 1; j < i+32 && j < width; j++ {
				if crc.Sum(turned(t, s, i, j)) == sum {
					t.Errorf("%q: bits %d and %d turned are not seen", s, i, j)
				}
			}
		}
	}
}

// Promise 1.1 of Put32 and Put64, and example 1: the lowest byte is first.
func TestNumbersAsBytes(t *testing.T) {
	for n, want := range map[uint32]string{
		0:              "\x00\x00\x00\x00",
		1:              "\x01\x00\x00\x00",
		258:            "\x02\x01\x00\x00",
		0x0a0b0c0d:     "\x0d\x0c\x0b\x0a",
		1 << 31:        "\x00\x00\x00\x80",
		math.MaxUint32: "\xff\xff\xff\xff",
	} {
		if s := crc.Put32(n); s != want {
			t.Errorf("Put32(%d) is %x", n, s)
		}
	}
	for n, want := range map[uint64]string{
		0:                  "\x00\x00\x00\x00\x00\x00\x00\x00",
		1:                  "\x01\x00\x00\x00\x00\x00\x00\x00",
		258:                "\x02\x01\x00\x00\x00\x00\x00\x00",
		1 << 32:            "\x00\x00\x00\x00\x01\x00\x00\x00",
		0x0102030405060708: "\x08\x07\x06\x05\x04\x03\x02\x01",
		1 << 63:            "\x00\x00\x00\x00\x00\x00\x00\x80",
		math.MaxUint64:     "\xff\xff\xff\xff\xff\xff\xff\xff",
	} {
		if s := crc.Put64(n); s != want {
			t.Errorf("Put64(%d) is %x", n, s)
		}
	}
}

// Promise 1.1 of Get32 and Get64, and P2: just four, just eight bytes are a number, and with the error it is zero.
func TestBytesThatAreNoNumber(t *testing.T) {
	for n := range 40 {
		s := strings.Repeat("\xa5", n)
		got32, why32 := crc.Get32(s)
		if n == 4 && (got32 != 0xa5a5a5a5 || why32 != api.OK) || n != 4 && (got32 != 0 || why32 != api.ErrForm) {
			t.Errorf("Get32 of %d bytes: %x, error %d", n, got32, why32)
		}
		got64, why64 := crc.Get64(s)
		if n == 8 && (got64 != 0xa5a5a5a5a5a5a5a5 || why64 != api.OK) || n != 8 && (got64 != 0 || why64 != api.ErrForm) {
			t.Errorf("Get64 of %d bytes: %x, error %d", n, got64, why64)
		}
	}
	if api.ErrForm != 14 || api.ErrRange != 1 {
		t.Error("the errors' numbers are others")
	}
}

// Promise 1.5, and the other way round.
func TestNumbersThereAndBack(t *testing.T) {
	for _, n := range numbers() {
		s := crc.Put64(n)
		if got, why := crc.Get64(s); got != n || why != api.OK {
			t.Errorf("Get64 of Put64(%d): %d, error %d", n, got, why)
		}
		m := uint32(n)
		if got, why := crc.Get32(crc.Put32(m)); got != m || why != api.OK {
			t.Errorf("Get32 of Put32(%d): %d, error %d", m, got, why)
		}
		if got, _ := crc.Get32(s[4:]); got != uint32(n>>32) {
			t.Errorf("Get32 of the upper bytes of %d: %d", n, got)
		}
		if back := crc.Put32(m); back != s[:4] {
			t.Errorf("Put32(%d) is %x", m, back)
		}
	}
}

// Promise 1.1 of Flip: just the bit of that weight, in that byte.
func TestFlipTurnsOneBit(t *testing.T) {
	for _, s := range []string{"\x00", "\xff", "ab", "\x80\x01\x7f", "123456789", strings.Repeat("s", api.SectorSize)} {
		for bit := range 8 * len(s) {
			got, why := crc.Flip(s, bit)
			if why != api.OK || len(got) != len(s) {
				t.Fatalf("Flip(%q, %d): %q, error %d", s, bit, got, why)
			}
			for i := range len(s) {
				want := s[i]
				if i == bit/8 {
					want ^= byte(1) << (bit % 8)
				}
				if got[i] != want {
					t.Errorf("Flip(%q, %d): byte %d is %02x, not %02x", s, bit, i, got[i], want)
				}
			}
			if back, _ := crc.Flip(got, bit); back != s {
				t.Errorf("%q, bit %d turned twice: %q", s, bit, back)
			}
		}
	}
	if s, why := crc.Flip("ab", 8); s != "ac" || why != api.OK {
		t.Errorf("Flip(ab, 8): %q, error %d", s, why)
	}
}

// Promise 1.1 of Flip, P1 and P2: places that are none.
func TestFlipOutsideOfTheText(t *testing.T) {
	for s, places := range map[string][]int{
		"":          {0, 1, -1, 8, math.MinInt, math.MaxInt},
		"a":         {-1, 8, 9, 16, math.MinInt, math.MinInt + 1, math.MaxInt, math.MaxInt - 7},
		"123456789": {-1, -7, -8, -72, 72, 73, 80, math.MinInt, math.MaxInt},
	} {
		for _, bit := range places {
			if got, why := crc.Flip(s, bit); got != "" || why != api.ErrRange {
				t.Errorf("Flip(%q, %d): %q, error %d", s, bit, got, why)
			}
		}
	}
}

// Promise 1.2, and P3: an answer hangs on its arguments alone, whatever was asked in between.
func TestAnswersHangOnTheirArgumentsAlone(t *testing.T) {
	bytes := []byte("bytes that are written over")
	s := string(bytes)
	flipped, _ := crc.Flip(s, 3)
	sum, more, put := crc.Sum(s), crc.More(77, s), crc.Put64(crcOf(s))
	for i := range bytes {
		bytes[i] = 0
	}
	for _, other := range texts() {
		crc.Sum(other)
		crc.More(crc.Sum(other), other)
		crc.Put64(uint64(len(other)))
		crc.Flip(other, 0)
	}
	again, _ := crc.Flip(s, 3)
	if s != "bytes that are written over" || flipped != "jytes that are written over" || again != flipped {
		t.Errorf("%q, %q, %q", s, flipped, again)
	}
	if crc.Sum(s) != sum || crc.More(77, s) != more || crc.Put64(crcOf(s)) != put {
		t.Error("asked again, the answer is another one")
	}
}

// crcOf is some number that hangs on s.
func crcOf(s string) uint64 {
	return bits.Reverse64(uint64(crc32.ChecksumIEEE([]byte(s))))
}

// P4.
func TestNoGoroutineIsLeft(t *testing.T) {
	before := runtime.NumGoroutine()
	for _, s := range texts() {
		crc.Sum(s)
		crc.More(5, s)
		crc.Get32(s)
		crc.Get64(s)
		crc.Flip(s, 0)
	}
	for _, n := range numbers() {
		crc.Put32(uint32(n))
		crc.Put64(n)
	}
	if after := runtime.NumGoroutine(); after > before {
		t.Errorf("%d goroutines, before %d", after, before)
	}
}
