package wal_test

import (
	"math"
	"math/rand"
	"runtime"
	"slices"
	"strings"
	"testing"

	"lictor/api"
	"lictor/record"
	"lictor/sector"
	"lictor/wal"
)

// data is what a sector may hold: one byte, again and again.
func data(b byte) string {
	return strings.Repeat(string([]byte{b}), api.SectorSize)
}

// blank is a right disk of sectors that are no frame's.
func blank(sectors int) api.Disk {
	return api.Disk{Sectors: slices.Repeat([]string{data('-')}, sectors), Fuse: -1}
}

// frame is one whose payload needs so many pieces.
func frame(epoch, seq uint64, pieces int) api.Frame {
	n := max(0, pieces*61-7)
	return api.Frame{Kind: uint8(1 + seq%255), Epoch: epoch, Seq: seq, Payload: strings.Repeat(string([]byte{byte('a' + seq%26)}), n)}
}

// sectorsOf are a right frame's sectors.
func sectorsOf(t *testing.T, f api.Frame) []string {
	t.Helper()
	s, why := record.Sectors(f)
	if why != api.OK {
		t.Fatalf("Sectors: error %d", why)
	}
	return s
}

// lay has frames in a disk's sectors, one behind the other, from sector n on.
func lay(t *testing.T, d api.Disk, n int, frames ...api.Frame) api.Disk {
	t.Helper()
	d = copied(d)
	for _, f := range frames {
		for _, s := range sectorsOf(t, f) {
			d.Sectors[n] = s
			n++
		}
	}
	return d
}

// copied is the same disk in memory of its own.
func copied(d api.Disk) api.Disk {
	d.Sectors = append([]string{}, d.Sectors...)
	d.Pending = append([]api.Write{}, d.Pending...)
	return d
}

// same tells whether two disks are alike; nil and empty lists are.
func same(a, b api.Disk) bool {
	return slices.Equal(a.Sectors, b.Sectors) && slices.Equal(a.Pending, b.Pending) && a.Off == b.Off && a.Fuse == b.Fuse
}

// zero tells whether a disk is the zero one.
func zero(d api.Disk) bool {
	return same(d, api.Disk{})
}

// logOf is the log of an epoch, and its end, of a disk that has its power.
func logOf(t *testing.T, d api.Disk, r api.Region, epoch uint64) ([]api.Frame, int) {
	t.Helper()
	log, end, why := wal.Scan(d, r, epoch)
	if why != api.OK {
		t.Fatalf("Scan: error %d", why)
	}
	return log, end
}

// hasLog asks that the log of an epoch is just those frames.
func hasLog(t *testing.T, name string, d api.Disk, r api.Region, epoch uint64, want ...api.Frame) {
	t.Helper()
	log, end := logOf(t, d, r, epoch)
	place := 0
	for _, f := range want {
		place += len(sectorsOf(t, f))
	}
	if !slices.Equal(log, want) || end != place {
		t.Errorf("%s: %d frames up to %d, not %d up to %d", name, len(log), end, len(want), place)
	}
}

// appended is the disk behind an append that is OK, and the place behind the frame.
func appended(t *testing.T, d api.Disk, r api.Region, at int, f api.Frame) (api.Disk, int) {
	t.Helper()
	e, end, why := wal.Append(d, r, at, f)
	if why != api.OK {
		t.Fatalf("Append at %d: error %d", at, why)
	}
	return e, end
}

// The sections Limits and Errors, as far as they speak of wal.
func TestLimitsAndErrors(t *testing.T) {
	if api.MaxFrames != 1024 || api.MaxSectors != 1024 {
		t.Error("a limit is another one")
	}
	if api.OK != 0 || api.ErrRange != 1 || api.ErrMany != 2 || api.ErrLong != 3 || api.ErrState != 13 || api.ErrPower != 15 || api.ErrFull != 16 {
		t.Error("an error's number is another one")
	}
}

// wrongDisks are some that are not right.
func wrongDisks() []api.Disk {
	short, misplaced, off := blank(4), blank(4), blank(4)
	short.Sectors[3] = "x"
	misplaced.Pending = []api.Write{{Sector: 4, Data: data('x')}}
	off.Sectors, off.Off = append(off.Sectors, ""), true
	return []api.Disk{{}, short, misplaced, off, blank(api.MaxSectors + 1)}
}

// wrongRegions are those that are not right of a disk of 4 sectors.
func wrongRegions() []api.Region {
	out := []api.Region{{}, {From: 1}, {From: 4}, {From: 4, Size: 1}, {From: 5, Size: 1}, {From: 0, Size: 5}, {From: 3, Size: 2}, {From: -1, Size: 2}, {From: -1, Size: 1}, {From: 2, Size: -1}, {From: 5, Size: -1}}
	edges := []int{math.MinInt, math.MinInt + 1, math.MinInt + 5, math.MaxInt - 4, math.MaxInt - 1, math.MaxInt}
	for _, n := range edges {
		out = append(out, api.Region{From: n, Size: 1}, api.Region{From: 1, Size: n}, api.Region{From: 0, Size: n})
		for _, m := range edges {
			out = append(out, api.Region{From: n, Size: m})
		}
	}
	return out
}

// Promise 4.1 of Check: all regions of a small disk, and P1 of others.
func TestRegions(t *testing.T) {
	for _, off := range []bool{false, true} {
		d := blank(4)
		d.Off = off
		for from := -2; from < 7; from++ {
			for size := -2; size < 7; size++ {
				want := api.ErrRange
				if from >= 0 && size >= 1 && from+size <= 4 {
					want = api.OK
				}
				if why := wal.Check(d, api.Region{From: from, Size: size}); why != want {
					t.Errorf("from %d, %d sectors: error %d", from, size, why)
				}
			}
		}
		for _, r := range wrongRegions() {
			if why := wal.Check(d, r); why != api.ErrRange {
				t.Errorf("%v: error %d", r, why)
			}
		}
	}
}

// Promise 4.1, P1 and P2: the error of the disk is first, then that of the region, all else being zero.
func TestWhatIsAnsweredFirst(t *testing.T) {
	right := api.Region{From: 1, Size: 2}
	refused := func(d api.Disk, r api.Region, want api.Errno) {
		t.Helper()
		if why := wal.Check(d, r); why != want {
			t.Errorf("Check: error %d, not %d", why, want)
		}
		if log, end, why := wal.Scan(d, r, 1); len(log) != 0 || end != 0 || why != want {
			t.Errorf("Scan: %d frames, %d, error %d, not %d", len(log), end, why, want)
		}
		for _, at := range []int{0, -1, 3, math.MinInt, math.MaxInt} {
			for _, f := range []api.Frame{frame(1, 0, 0), {}, {Kind: 1, Payload: strings.Repeat("x", api.MaxPayload+1)}} {
				if e, end, why := wal.Append(d, r, at, f); !zero(e) || end != 0 || why != want {
					t.Errorf("Append: %d sectors, %d, error %d, not %d", len(e.Sectors), end, why, want)
				}
			}
		}
	}
	for _, d := range wrongDisks() {
		refused(d, right, api.ErrState)
		refused(d, api.Region{}, api.ErrState)
	}
	for _, off := range []bool{false, true} {
		d := blank(4)
		d.Off = off
		for _, r := range wrongRegions() {
			refused(d, r, api.ErrRange)
		}
	}
}

// Promise 4.1 of Scan, and P2: a disk that is Off.
func TestScanWithoutPower(t *testing.T) {
	d := lay(t, blank(4), 1, frame(1, 0, 1))
	d.Off = true
	if log, end, why := wal.Scan(d, api.Region{From: 1, Size: 3}, 1); len(log) != 0 || end != 0 || why != api.ErrPower {
		t.Errorf("%d frames, %d, error %d", len(log), end, why)
	}
}

// Words, and promise 4.1 of Scan: frames in a row, of all kinds and sizes, in a region that others stand around.
func TestScan(t *testing.T) {
	r := api.Region{From: 2, Size: 12}
	frames := []api.Frame{frame(7, 0, 0), frame(7, 1, 3), frame(7, 2, 0), frame(7, 3, 1), frame(7, 4, 2)}
	for n := range len(frames) + 1 {
		d := lay(t, blank(20), 2, frames[:n]...)
		hasLog(t, "frames in a row", d, r, 7, frames[:n]...)
		for _, epoch := range []uint64{0, 6, 8, math.MaxUint64} {
			hasLog(t, "another epoch", d, r, epoch)
		}
	}
	d := lay(t, blank(20), 2, frames...)
	// The frames end at 11: of a smaller region those that are whole within it.
	for size, n := range map[int]int{1: 1, 2: 1, 4: 1, 5: 2, 6: 3, 7: 3, 8: 4, 10: 4, 11: 5, 12: 5, 18: 5} {
		hasLog(t, "a region's end", d, api.Region{From: 2, Size: size}, 7, frames[:n]...)
	}
	hasLog(t, "from a piece on", d, api.Region{From: 4, Size: 10}, 7)
	hasLog(t, "from the second frame on", d, api.Region{From: 3, Size: 10}, 7)
	hasLog(t, "nothing ahead of it", d, api.Region{From: 1, Size: 10}, 7)
	great := []api.Frame{{Kind: 255, Epoch: math.MaxUint64, Payload: strings.Repeat("\x00", api.MaxPayload)}, {Kind: 1, Epoch: math.MaxUint64, Seq: 1}}
	hasLog(t, "the longest one", lay(t, blank(271), 0, great...), api.Region{Size: 271}, math.MaxUint64, great...)
	hasLog(t, "epoch 0", lay(t, blank(3), 0, frame(0, 0, 1)), api.Region{Size: 3}, 0, frame(0, 0, 1))
}

// Words: what ends a log.
func TestWhatEndsALog(t *testing.T) {
	r := api.Region{From: 1, Size: 15}
	a, b, c := frame(3, 0, 1), frame(3, 1, 2), frame(3, 2, 0)
	good := lay(t, blank(17), 1, a, b, c)
	hasLog(t, "all of them", good, r, 3, a, b, c)
	hold := func(n int, s string) api.Disk {
		d := copied(good)
		d.Sectors[n] = s
		return d
	}
	flipped := func(n, at int) api.Disk {
		b := []byte(good.Sectors[n])
		b[at] ^= 4
		return hold(n, string(b))
	}
	for name, x := range map[string]struct {
		d    api.Disk
		want []api.Frame
	}{
		"no head":                    {hold(1, data(0)), nil},
		"a head that is not whole":   {flipped(1, 12), nil},
		"a piece lost":               {hold(2, data('-')), nil},
		"the second head lost":       {hold(3, data(0)), []api.Frame{a}},
		"a piece turned":             {flipped(4, 30), []api.Frame{a}},
		"a last piece turned":        {flipped(5, 63), []api.Frame{a}},
		"a piece of another place":   {hold(5, good.Sectors[4]), []api.Frame{a}},
		"the last head turned":       {flipped(6, 0), []api.Frame{a, b}},
		"not from 0 on":              {lay(t, blank(17), 1, b, c), nil},
		"the first one twice":        {lay(t, blank(17), 1, a, a, b), []api.Frame{a}},
		"the second one twice":       {lay(t, blank(17), 1, a, b, b, c), []api.Frame{a, b}},
		"one left out":               {lay(t, blank(17), 1, a, c), []api.Frame{a}},
		"a place left out":           {lay(t, lay(t, blank(17), 1, a), 4, b), []api.Frame{a}},
		"an elder epoch behind it":   {lay(t, blank(17), 1, a, frame(2, 1, 2), c), []api.Frame{a}},
		"a later epoch behind it":    {lay(t, blank(17), 1, a, b, frame(4, 2, 0)), []api.Frame{a, b}},
		"another epoch at its start": {lay(t, blank(17), 1, frame(2, 0, 1), b, c), nil},
		"begun anew":                 {lay(t, blank(17), 1, a, b, frame(3, 0, 0)), []api.Frame{a, b}},
		"the greatest seq":           {lay(t, blank(17), 1, a, frame(3, math.MaxUint64, 0)), []api.Frame{a}},
		"the greatest seq first":     {lay(t, blank(17), 1, frame(3, math.MaxUint64, 0), a), nil},
	} {
		hasLog(t, name, x.d, r, 3, x.want...)
	}
}

// What a sector holds counts, synced or not.
func TestScanReadsWhatIsPending(t *testing.T) {
	r := api.Region{From: 0, Size: 6}
	a, b := frame(5, 0, 1), frame(5, 1, 1)
	d := lay(t, blank(6), 0, a)
	s := sectorsOf(t, b)
	d.Pending = []api.Write{{Sector: 2, Data: data('x')}, {Sector: 3, Data: s[1]}, {Sector: 2, Data: s[0]}}
	hasLog(t, "not synced", d, r, 5, a, b)
	d.Pending = append(d.Pending, api.Write{Sector: 1, Data: data('x')})
	hasLog(t, "written over", d, r, 5)
	d.Fuse = 0
	hasLog(t, "reading is no work", d, r, 5)
}

// At most MaxFrames: as many as a disk may have sectors.
func TestAsManyFramesAsMayBe(t *testing.T) {
	d := blank(api.MaxSectors)
	for i := range d.Sectors {
		d.Sectors[i] = sectorsOf(t, frame(1, uint64(i), 0))[0]
	}
	log, end := logOf(t, d, api.Region{Size: api.MaxSectors}, 1)
	if len(log) != api.MaxFrames || end != api.MaxSectors || log[api.MaxFrames-1] != frame(1, api.MaxFrames-1, 0) {
		t.Errorf("%d frames up to %d", len(log), end)
	}
}

// Promise 4.2, and example 1: frames that are appended one behind the other, till the region is full.
func TestAppendOneByOne(t *testing.T) {
	for _, r := range []api.Region{{From: 0, Size: 12}, {From: 3, Size: 9}, {From: 5, Size: 1}, {From: 11, Size: 1}, {From: 2, Size: 8}} {
		d, at := blank(12), 0
		var log []api.Frame
		for i, pieces := range []int{0, 3, 1, 0, 2} {
			f := frame(4, uint64(i), pieces)
			before := copied(d)
			e, end, why := wal.Append(d, r, at, f)
			if at+1+pieces > r.Size {
				if !same(e, before) || end != 0 || why != api.ErrFull {
					t.Errorf("%v: full: %d, error %d", r, end, why)
				}
				break
			}
			if why != api.OK || end != at+1+pieces || len(e.Pending) != 0 || e.Off || e.Fuse != -1 {
				t.Fatalf("%v: place %d, error %d", r, end, why)
			}
			d, at, log = e, end, append(log, f)
			hasLog(t, "behind the append", d, r, 4, log...)
		}
		if want := lay(t, blank(12), r.From, log...); !same(d, want) {
			t.Errorf("%v: other sectors", r)
		}
	}
}

// Promise 4.2: a place may be any from 0 on, and what stands there is written over.
func TestAppendAtAnyPlace(t *testing.T) {
	r := api.Region{From: 1, Size: 6}
	for at := range 5 {
		f := frame(9, 33, 1)
		e, end := appended(t, blank(8), r, at, f)
		if end != at+2 || !same(e, lay(t, blank(8), 1+at, f)) {
			t.Errorf("at %d: place %d", at, end)
		}
	}
	d := lay(t, blank(8), 1, frame(9, 0, 1), frame(9, 1, 1))
	if e, _ := appended(t, d, r, 0, frame(10, 0, 1)); !same(e, lay(t, d, 1, frame(10, 0, 1))) {
		t.Error("not just the two sectors are written over")
	}
}

// Promise 4.2: what it refuses, the first that applies; the disk is as it was, and 0.
func TestWhatAnAppendRefuses(t *testing.T) {
	r := api.Region{From: 1, Size: 5}
	long := api.Frame{Kind: 1, Payload: strings.Repeat("x", api.MaxPayload+1)}
	for _, x := range []struct {
		name string
		at   int
		f    api.Frame
		want api.Errno
	}{
		{"kind 0", 0, api.Frame{Epoch: 1}, api.ErrRange},
		{"kind 0, too long", 0, api.Frame{Payload: long.Payload}, api.ErrRange},
		{"kind 0, full", 5, api.Frame{Epoch: 1}, api.ErrRange},
		{"too long", 0, long, api.ErrLong},
		{"too long, no place", -1, long, api.ErrLong},
		{"too long, no place", 6, long, api.ErrLong},
		{"ahead of the region", -1, frame(1, 0, 0), api.ErrRange},
		{"behind the region's end", 6, frame(1, 0, 0), api.ErrRange},
		{"behind the region's end, no room", 6, frame(1, 0, 9), api.ErrRange},
		{"the least place", math.MinInt, frame(1, 0, 0), api.ErrRange},
		{"the greatest place", math.MaxInt, frame(1, 0, 0), api.ErrRange},
		{"at the end", 5, frame(1, 0, 0), api.ErrFull},
		{"a piece too many", 4, frame(1, 0, 1), api.ErrFull},
		{"a sector too many", 0, frame(1, 0, 5), api.ErrFull},
		{"as long as may be", 0, frame(1, 0, 268), api.ErrFull},
	} {
		for _, off := range []bool{false, true} {
			for _, fuse := range []int{-1, 0, 3} {
				d := blank(8)
				d.Off, d.Fuse = off, fuse
				d.Pending = []api.Write{{Sector: 2, Data: data('p')}}
				if e, end, why := wal.Append(d, r, x.at, x.f); !same(e, d) || end != 0 || why != x.want {
					t.Errorf("%s: %d, error %d", x.name, end, why)
				}
			}
		}
	}
	for pieces, at := range map[int]int{0: 4, 1: 3, 4: 0} {
		if _, end := appended(t, blank(8), r, at, frame(1, 0, pieces)); end != 5 {
			t.Errorf("%d pieces at %d: %d", pieces, at, end)
		}
	}
}

// Promise 4.2: the first error of a step stops it, the disk being as it is then.
func TestAppendToADiskThatRefuses(t *testing.T) {
	r := api.Region{From: 1, Size: 5}
	for pieces := range 3 {
		d := blank(8)
		d.Off = true
		d.Pending = []api.Write{{Sector: 2, Data: data('p')}}
		if e, end, why := wal.Append(d, r, 0, frame(1, 0, pieces)); !same(e, d) || end != 0 || why != api.ErrPower {
			t.Errorf("off, %d pieces: %d, error %d", pieces, end, why)
		}
	}
	d := blank(8)
	d.Pending = slices.Repeat([]api.Write{{Sector: 0, Data: data('p')}}, api.MaxPending-1)
	f := frame(1, 0, 2)
	want := copied(d)
	want.Pending = append(want.Pending, api.Write{Sector: 2, Data: sectorsOf(t, f)[1]})
	if e, end, why := wal.Append(d, r, 0, f); !same(e, want) || end != 0 || why != api.ErrMany {
		t.Errorf("no more writes: %d, error %d", end, why)
	}
	// With room for all pieces the sync comes in time: the head needs no more.
	d.Pending = append(d.Pending, d.Pending[0])
	e, end := appended(t, d, r, 0, frame(1, 0, 0))
	if want := lay(t, blank(8), 1, frame(1, 0, 0)); end != 1 || len(e.Pending) != 0 || !slices.Equal(e.Sectors[1:], want.Sectors[1:]) {
		t.Errorf("a head alone: %d", end)
	}
}

// plain is a disk with a Fuse from 0 on, whose work is done in place, as chapter 2 has it.
type plain struct {
	api.Disk
}

// burn tells whether there is power for one more write or sync.
func (p *plain) burn() bool {
	if p.Fuse == 0 {
		p.Off = true
	}
	if !p.Off {
		p.Fuse--
	}
	return !p.Off
}

func (p *plain) put(n int, s string) {
	if !p.Off {
		p.burn()
		p.Pending = append(p.Pending, api.Write{Sector: n, Data: s})
	}
}

func (p *plain) sync() {
	if !p.burn() {
		return
	}
	for _, w := range p.Pending {
		p.Sectors[w.Sector] = w.Data
	}
	p.Pending = nil
}

// Promise 4.2: in this order the pieces, a sync, the head, a sync. Wherever the power goes, the disk is as it is then.
func TestTheOrderOfTheSteps(t *testing.T) {
	const at = 1
	r := api.Region{From: 2, Size: 6}
	for pieces := range 5 {
		f := frame(1, 0, pieces)
		s := sectorsOf(t, f)
		for fuse := range pieces + 5 {
			d := blank(9)
			d.Fuse = fuse
			d.Pending = []api.Write{{Sector: 8, Data: data('p')}}
			want := plain{copied(d)}
			for i, p := range s[1:] {
				want.put(r.From+at+1+i, p)
			}
			want.sync()
			want.put(r.From+at, s[0])
			want.sync()
			why, end := api.OK, at+len(s)
			if want.Off {
				why, end = api.ErrPower, 0
			}
			if got, place, reason := wal.Append(d, r, at, f); !same(got, want.Disk) || place != end || reason != why {
				t.Errorf("%d pieces, fuse %d: %d pending, %t, %d, place %d, error %d", pieces, fuse, len(got.Pending), got.Off, got.Fuse, place, reason)
			}
		}
	}
}

// crashes yields all that a crash may keep of a disk's writes.
func crashes(t *testing.T, d api.Disk) func(yield func(api.Disk) bool) {
	return func(yield func(api.Disk) bool) {
		for mask := range 1 << len(d.Pending) {
			keep := make([]bool, len(d.Pending))
			for i := range keep {
				keep[i] = mask>>i&1 == 1
			}
			e, why := sector.Crash(d, keep)
			if why != api.OK {
				t.Fatalf("Crash: error %d", why)
			}
			if !yield(e) {
				return
			}
		}
	}
}

// wholeOrNot appends f to a log with each fuse, and asks behind each crash that the log is as it was, or has f at its end.
func wholeOrNot(t *testing.T, d api.Disk, r api.Region, log []api.Frame, at int, f api.Frame) {
	t.Helper()
	more := append(slices.Clone(log), f)
	lost, kept := 0, 0
	for fuse := range len(sectorsOf(t, f)) + 3 {
		d.Fuse = fuse
		e, end, why := wal.Append(d, r, at, f)
		if (why == api.OK) == e.Off || why != api.OK && (why != api.ErrPower || end != 0) {
			t.Fatalf("fuse %d: %t, %d, error %d", fuse, e.Off, end, why)
		}
		for c := range crashes(t, e) {
			got, last := logOf(t, c, r, f.Epoch)
			switch {
			case slices.Equal(got, more):
				kept++
				if last != at+len(sectorsOf(t, f)) {
					t.Errorf("fuse %d: it ends at %d", fuse, last)
				}
			case why == api.OK || !slices.Equal(got, log) || last != at:
				t.Errorf("fuse %d, error %d: %d frames up to %d", fuse, why, len(got), last)
			default:
				lost++
				// What the crash left does not stand in the way of the next one.
				c, _ = appended(t, c, r, at, f)
				hasLog(t, "appended behind the crash", c, r, f.Epoch, more...)
			}
		}
	}
	if lost == 0 || kept == 0 {
		t.Errorf("%d lost, %d kept", lost, kept)
	}
}

// Promises 4.4, 4.5, and P7.
func TestWholeOrNot(t *testing.T) {
	r := api.Region{From: 3, Size: 14}
	// Behind the log are an elder one's frames, so that what is lost is not blank.
	d := lay(t, blank(20), 3, frame(1, 0, 1), frame(1, 1, 1), frame(1, 2, 1), frame(1, 3, 1), frame(1, 4, 1), frame(1, 5, 3))
	var log []api.Frame
	at := 0
	for i, pieces := range []int{0, 2, 4, 1, 0} {
		f := frame(2, uint64(i), pieces)
		wholeOrNot(t, d, r, log, at, f)
		d.Fuse = -1
		d, at = appended(t, d, r, at, f)
		log = append(log, f)
	}
	hasLog(t, "all of them", d, r, 2, log...)
}

// Promise 4.5: what was appended is there behind any crash, whatever is written then outside of the log.
func TestKept(t *testing.T) {
	r := api.Region{From: 1, Size: 6}
	a, b := frame(6, 0, 1), frame(6, 1, 2)
	d, at := appended(t, blank(9), r, 0, a)
	d, at = appended(t, d, r, at, b)
	for _, n := range []int{0, at + 1, 7, 8} {
		var why api.Errno
		if d, why = sector.Put(d, n, data('w')); why != api.OK {
			t.Fatalf("Put: error %d", why)
		}
	}
	for c := range crashes(t, d) {
		hasLog(t, "behind a crash", c, r, 6, a, b)
	}
}

// Promises 4.4 and 4.5, of many appends and crashes: what was answered OK is there, in order, and perhaps the one in which the power went.
func TestManyCrashes(t *testing.T) {
	r := rand.New(rand.NewSource(4))
	region := api.Region{From: 5, Size: 40}
	for epoch := range uint64(60) {
		d := blank(50)
		var log []api.Frame
		for at := 0; ; {
			f := frame(epoch, uint64(len(log)), r.Intn(6))
			d.Fuse = r.Intn(12)
			e, end, why := wal.Append(d, region, at, f)
			if why == api.ErrFull {
				break
			}
			if why == api.OK {
				log = append(log, f)
				at = end
			}
			keep := make([]bool, len(e.Pending))
			for i := range keep {
				keep[i] = r.Intn(2) == 0
			}
			d, _ = sector.Crash(e, keep)
			got, last := logOf(t, d, region, epoch)
			if why == api.ErrPower && slices.Equal(got, append(slices.Clone(log), f)) {
				log, at = got, last
			}
			if !slices.Equal(got, log) || last != at {
				t.Fatalf("epoch %d: %d frames up to %d, not %d up to %d", epoch, len(got), last, len(log), at)
			}
		}
	}
}

// Promise 4.6: a log of a new epoch is written over an elder one's frames, and has none of them.
func TestElderFrames(t *testing.T) {
	r := api.Region{From: 0, Size: 8}
	elder := []api.Frame{frame(1, 0, 1), frame(1, 1, 0), frame(1, 2, 1), frame(1, 3, 0), frame(1, 4, 1)}
	d := lay(t, blank(8), 0, elder...)
	hasLog(t, "the elder one", d, r, 1, elder...)
	hasLog(t, "the new one", d, r, 2)
	a, b := frame(2, 0, 1), frame(2, 1, 0)
	d, at := appended(t, d, r, 0, a)
	// Behind it lie frames with the next Seq, of the elder epoch.
	hasLog(t, "the new one", d, r, 2, a)
	hasLog(t, "the elder one", d, r, 1)
	d, _ = appended(t, d, r, at, b)
	hasLog(t, "the new one", d, r, 2, a, b)
	hasLog(t, "the elder one", d, r, 1)
}

// roomy is d with room behind its lists, which only who made them may fill.
func roomy(d api.Disk) api.Disk {
	sectors := append(slices.Clone(d.Sectors), data('0'), data('1'))
	pending := append(slices.Clone(d.Pending), api.Write{Data: data('2')}, api.Write{Data: data('3')})
	d.Sectors, d.Pending = sectors[:len(d.Sectors)], pending[:len(d.Pending)]
	return d
}

// scribble writes over all that a disk's lists have, and over the room behind them.
func scribble(d api.Disk) {
	for i := range d.Sectors[:cap(d.Sectors)] {
		d.Sectors[:cap(d.Sectors)][i] = "scribbled"
	}
	for i := range d.Pending[:cap(d.Pending)] {
		d.Pending[:cap(d.Pending)][i] = api.Write{Sector: -77}
	}
}

// Promise 4.3, and P3: nothing handed in is changed or kept, answers share no memory, and room behind a list is no matter.
func TestNewMemory(t *testing.T) {
	r := api.Region{From: 1, Size: 6}
	full := blank(8)
	full.Pending = slices.Repeat([]api.Write{{Sector: 7, Data: data('p')}}, api.MaxPending)
	some, off, fused := blank(8), blank(8), blank(8)
	some.Pending, off.Pending, fused.Pending = full.Pending[:2], full.Pending[:1], full.Pending[:3]
	off.Off, fused.Fuse = true, 2
	for i, given := range []api.Disk{blank(8), some, off, fused, full} {
		for _, at := range []int{0, 3, 5, 6, 7, -1} {
			for _, f := range []api.Frame{frame(1, 0, 0), frame(1, 0, 2), {}, {Kind: 1, Payload: strings.Repeat("x", api.MaxPayload+1)}} {
				d := roomy(given)
				back := copied(api.Disk{Sectors: d.Sectors[:cap(d.Sectors)], Pending: d.Pending[:cap(d.Pending)]})
				first, end, why := wal.Append(d, r, at, f)
				want := copied(first)
				second, place, again := wal.Append(d, r, at, f)
				if !slices.Equal(d.Sectors[:cap(d.Sectors)], back.Sectors) || !slices.Equal(d.Pending[:cap(d.Pending)], back.Pending) {
					t.Fatalf("disk %d, at %d: what was handed in is changed", i, at)
				}
				scribble(first)
				if !same(d, given) || !same(second, want) || place != end || again != why {
					t.Fatalf("disk %d, at %d: an answer shares memory, or is another one", i, at)
				}
				scribble(d)
				if !same(second, want) {
					t.Fatalf("disk %d, at %d: what was handed in is kept", i, at)
				}
			}
		}
	}
}

func TestScansShareNothing(t *testing.T) {
	r := api.Region{From: 1, Size: 6}
	frames := []api.Frame{frame(1, 0, 1), frame(1, 1, 0), frame(1, 2, 1)}
	d := roomy(lay(t, blank(8), 1, frames...))
	before := copied(d)
	first, _ := logOf(t, d, r, 1)
	second, _ := logOf(t, d, r, 1)
	for i := range first[:cap(first)] {
		first[:cap(first)][i] = api.Frame{Kind: 77}
	}
	if !same(d, before) || !slices.Equal(second, frames) {
		t.Error("an answer shares memory, or what was handed in is changed")
	}
	scribble(d)
	if !slices.Equal(second, frames) {
		t.Error("what was handed in is kept")
	}
}

// P4.
func TestNoGoroutineIsLeft(t *testing.T) {
	before := runtime.NumGoroutine()
	d := lay(t, blank(8), 0, frame(1, 0, 1), frame(1, 1, 1))
	for size := range 10 {
		r := api.Region{Size: size}
		wal.Check(d, r)
		wal.Scan(d, r, 1)
		for at := range 9 {
			wal.Append(d, r, at, frame(1, 2, 1))
		}
	}
	if after := runtime.NumGoroutine(); after > before {
		t.Errorf("%d goroutines, before %d", after, before)
	}
}
