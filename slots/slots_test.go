package slots_test

import (
	"math"
	"math/rand"
	"runtime"
	"slices"
	"strings"
	"testing"

	"lictor/api"
	"lictor/record"
	"lictor/sector"
	"lictor/slots"
)

// The slots of most tests: two regions, the second one ahead of the first one, with sectors around them.
var (
	first  = api.Region{From: 9, Size: 5}
	second = api.Region{From: 2, Size: 6}
)

// few is how many sectors the disks of most tests have.
const few = 16

// filled is what a sector may hold: one byte, again and again.
func filled(b byte) string {
	return strings.Repeat(string([]byte{b}), api.SectorSize)
}

// blank is a right disk without an image.
func blank(sectors int) api.Disk {
	return api.Disk{Sectors: slices.Repeat([]string{filled('-')}, sectors), Fuse: -1}
}

// image is one whose frame has so many pieces.
func image(epoch uint64, pieces int) api.Image {
	return api.Image{Epoch: epoch, Payload: strings.Repeat(string([]byte{byte('a' + epoch%26)}), max(0, pieces*61-int(epoch%50)))}
}

// frameOf is an image's frame.
func frameOf(m api.Image) api.Frame {
	return api.Frame{Kind: 2, Epoch: m.Epoch, Payload: m.Payload}
}

// sectorsOf are a right frame's sectors.
func sectorsOf(t *testing.T, f api.Frame) []string {
	t.Helper()
	s, why := record.Sectors(f)
	if why != api.OK {
		t.Fatalf("Sectors: error %d", why)
	}
	return s
}

// lay has a frame in a disk's sectors, from sector n on.
func lay(t *testing.T, d api.Disk, n int, f api.Frame) api.Disk {
	t.Helper()
	d = again(d)
	copy(d.Sectors[n:], sectorsOf(t, f))
	return d
}

// again is the same disk in memory of its own.
func again(d api.Disk) api.Disk {
	d.Sectors, d.Pending = slices.Clone(d.Sectors), slices.Clone(d.Pending)
	return d
}

// like tells whether two disks are alike; nil and empty lists are.
func like(a, b api.Disk) bool {
	return a.Off == b.Off && a.Fuse == b.Fuse && slices.Equal(a.Pending, b.Pending) && slices.Equal(a.Sectors, b.Sectors)
}

// has asks that the image of a disk is m, in that slot.
func has(t *testing.T, name string, d api.Disk, m api.Image, slot int) {
	t.Helper()
	got, place, why := slots.Load(d, first, second)
	if got != m || place != slot || why != api.OK {
		t.Errorf("%s: epoch %d with %d bytes in slot %d, error %d; not epoch %d with %d bytes in slot %d", name, got.Epoch, len(got.Payload), place, why, m.Epoch, len(m.Payload), slot)
	}
}

// hasNone asks that a disk has no image.
func hasNone(t *testing.T, name string, d api.Disk) {
	t.Helper()
	if m, place, why := slots.Load(d, first, second); m != (api.Image{}) || place != 0 || why != api.ErrUnknown {
		t.Errorf("%s: epoch %d with %d bytes in slot %d, error %d", name, m.Epoch, len(m.Payload), place, why)
	}
}

// saved is the disk behind a save that is OK.
func saved(t *testing.T, d api.Disk, m api.Image) api.Disk {
	t.Helper()
	e, why := slots.Save(d, first, second, m)
	if why != api.OK {
		t.Fatalf("Save of epoch %d: error %d", m.Epoch, why)
	}
	return e
}

// The sections Limits and Errors, as far as they speak of slots.
func TestLimitsAndErrors(t *testing.T) {
	if api.MaxPayload != 16384 || api.MaxSectors != 1024 {
		t.Error("a limit is another one")
	}
	if api.OK != 0 || api.ErrRange != 1 || api.ErrMany != 2 || api.ErrLong != 3 || api.ErrUnknown != 9 || api.ErrTwice != 10 || api.ErrState != 13 || api.ErrPower != 15 || api.ErrSize != 17 {
		t.Error("an error's number is another one")
	}
}

// refused asks what each call answers first, all else being zero.
func refused(t *testing.T, d api.Disk, a, b api.Region, want api.Errno) {
	t.Helper()
	if why := slots.Check(d, a, b); why != want {
		t.Errorf("Check of %v, %v: error %d, not %d", a, b, why, want)
	}
	if want == api.OK {
		return
	}
	if m, place, why := slots.Load(d, a, b); m != (api.Image{}) || place != 0 || why != want {
		t.Errorf("Load of %v, %v: epoch %d, slot %d, error %d, not %d", a, b, m.Epoch, place, why, want)
	}
	for _, m := range []api.Image{{}, image(7, 1), {Payload: strings.Repeat("x", api.MaxPayload+1)}} {
		if e, why := slots.Save(d, a, b, m); !like(e, api.Disk{}) || why != want {
			t.Errorf("Save of %v, %v: %d sectors, error %d, not %d", a, b, len(e.Sectors), why, want)
		}
	}
}

// regionOf tells whether a region is right of so many sectors, and which ones it has.
func regionOf(r api.Region, sectors int) (map[int]bool, bool) {
	out := map[int]bool{}
	for i := range max(0, r.Size) {
		if r.From+i < 0 || r.From+i >= sectors {
			return nil, false
		}
		out[r.From+i] = true
	}
	return out, len(out) > 0
}

// Promise 5.1 of Check, and P2: all pairs of regions of a small disk, with its power and without.
func TestAllPairsOfRegions(t *testing.T) {
	var all []api.Region
	for from := -1; from < 5; from++ {
		for size := -1; size < 6; size++ {
			all = append(all, api.Region{From: from, Size: size})
		}
	}
	for _, off := range []bool{false, true} {
		d := blank(4)
		d.Off = off
		for _, a := range all {
			of, right := regionOf(a, 4)
			for _, b := range all {
				other, rightToo := regionOf(b, 4)
				want := api.OK
				if !right || !rightToo {
					want = api.ErrRange
				} else {
					for n := range of {
						if other[n] {
							want = api.ErrTwice
						}
					}
				}
				refused(t, d, a, b, want)
			}
		}
	}
}

// Promise 5.1, and P1: regions far out, and disks that are not right, whatever the regions are.
func TestWhatIsAnsweredFirst(t *testing.T) {
	right := api.Region{From: 0, Size: 2}
	edges := []int{math.MinInt, math.MinInt + 1, math.MinInt + 3, math.MaxInt - 3, math.MaxInt - 1, math.MaxInt}
	for _, n := range edges {
		for _, r := range []api.Region{{From: n, Size: 1}, {From: 2, Size: n}, {From: n, Size: n}, {From: n, Size: math.MaxInt}} {
			refused(t, blank(4), r, right, api.ErrRange)
			refused(t, blank(4), right, r, api.ErrRange)
			refused(t, blank(4), r, r, api.ErrRange)
		}
	}
	short, misplaced := blank(4), blank(4)
	short.Sectors[1] = "short"
	misplaced.Pending = []api.Write{{Sector: -1, Data: filled('x')}}
	for _, d := range []api.Disk{{}, short, misplaced, blank(api.MaxSectors + 1)} {
		d.Off = !d.Off
		refused(t, d, right, api.Region{From: 2, Size: 2}, api.ErrState)
		refused(t, d, right, right, api.ErrState)
		refused(t, d, api.Region{}, api.Region{From: -1}, api.ErrState)
	}
}

// Promise 5.1 of Load, and P2: a disk that is Off.
func TestLoadWithoutPower(t *testing.T) {
	for _, d := range []api.Disk{blank(few), lay(t, blank(few), first.From, frameOf(image(3, 1)))} {
		d.Off = true
		if m, place, why := slots.Load(d, first, second); m != (api.Image{}) || place != 0 || why != api.ErrPower {
			t.Errorf("epoch %d, slot %d, error %d", m.Epoch, place, why)
		}
	}
}

// Words, promise 5.1 of Load, and example 1: of two images that of the greater Epoch, of two alike the first slot's.
func TestTheGreaterEpoch(t *testing.T) {
	hasNone(t, "nothing saved", blank(few))
	epochs := []uint64{0, 1, 2, 255, 256, 1 << 32, 1 << 63, math.MaxUint64 - 1, math.MaxUint64}
	for i, e := range epochs {
		a := api.Image{Epoch: e, Payload: "of the first slot"}
		d := lay(t, blank(few), first.From, frameOf(a))
		has(t, "in the first slot alone", d, a, 0)
		has(t, "in the second slot alone", lay(t, blank(few), second.From, frameOf(a)), a, 1)
		for j, f := range epochs {
			b := api.Image{Epoch: f, Payload: "of the second slot"}
			both := lay(t, d, second.From, frameOf(b))
			if j > i {
				has(t, "the second one is newer", both, b, 1)
			} else {
				has(t, "the second one is no newer", both, a, 0)
			}
		}
	}
}

// Words: what lies in a slot, and what does not.
func TestWhatIsAnImage(t *testing.T) {
	old := image(1, 1)
	ground := lay(t, blank(few), second.From, frameOf(old))
	m := image(5, 3)
	put := func(n int, s string) api.Disk {
		d := lay(t, ground, first.From, frameOf(m))
		d.Sectors[n] = s
		return d
	}
	s := sectorsOf(t, frameOf(m))
	flipped := []byte(s[3])
	flipped[40] ^= 1
	for name, d := range map[string]api.Disk{
		"kind 1":                    lay(t, ground, first.From, api.Frame{Kind: 1, Epoch: 5, Payload: "x"}),
		"kind 3":                    lay(t, ground, first.From, api.Frame{Kind: 3, Epoch: 5, Payload: "x"}),
		"kind 255":                  lay(t, ground, first.From, api.Frame{Kind: 255, Epoch: 5}),
		"seq 1":                     lay(t, ground, first.From, api.Frame{Kind: 2, Epoch: 5, Seq: 1}),
		"the greatest seq":          lay(t, ground, first.From, api.Frame{Kind: 2, Epoch: 5, Seq: math.MaxUint64}),
		"not at the slot's start":   lay(t, ground, first.From+1, frameOf(image(5, 0))),
		"ahead of the slot":         lay(t, ground, first.From-1, frameOf(image(5, 0))),
		"no head":                   put(first.From, filled(0)),
		"a piece for the head":      put(first.From, s[1]),
		"a piece lost":              put(first.From+1, filled('-')),
		"a piece of another place":  put(first.From+1, s[2]),
		"a bit of a piece turned":   put(first.From+3, string(flipped)),
		"a piece of another image":  put(first.From+2, sectorsOf(t, frameOf(image(6, 3)))[2]),
		"the head of another image": put(first.From, sectorsOf(t, frameOf(image(6, 3)))[0]),
		"greater than the slot":     lay(t, ground, first.From, frameOf(image(5, first.Size))),
	} {
		has(t, name, d, old, 1)
		d.Sectors[second.From] = filled(0)
		hasNone(t, name, d)
	}
	has(t, "whole", put(first.From+4, "B"+filled('x')[1:]), m, 0)
	has(t, "as great as the slot", lay(t, ground, first.From, frameOf(image(7, first.Size-1))), image(7, first.Size-1), 0)
	// The frames that lie behind it, of whatever kind, are no matter.
	has(t, "a frame behind it", put(first.From+4, sectorsOf(t, api.Frame{Kind: 2, Epoch: 5, Seq: 1})[0]), m, 0)
	has(t, "a newer frame behind it", put(first.From+4, sectorsOf(t, frameOf(image(9, 0)))[0]), m, 0)
}

// What a sector holds counts, synced or not.
func TestLoadReadsWhatIsPending(t *testing.T) {
	m := image(4, 1)
	s := sectorsOf(t, frameOf(m))
	d := blank(few)
	d.Fuse = 0
	d.Pending = []api.Write{{Sector: 9, Data: filled('x')}, {Sector: 10, Data: s[1]}, {Sector: 9, Data: s[0]}}
	has(t, "not synced", d, m, 0)
	d.Pending = append(d.Pending, api.Write{Sector: 10, Data: filled('x')})
	hasNone(t, "written over", d)
}

// The longest image, in slots as great as a disk may have them.
func TestTheGreatestSlots(t *testing.T) {
	a, b := api.Region{From: 0, Size: 512}, api.Region{From: 512, Size: 512}
	d := blank(api.MaxSectors)
	for i, want := range []int{0, 1, 0} {
		m := api.Image{Epoch: uint64(i), Payload: strings.Repeat(string([]byte{byte(i)}), api.MaxPayload)}
		e, why := slots.Save(d, a, b, m)
		if got, place, reason := slots.Load(e, a, b); why != api.OK || got != m || place != want || reason != api.OK {
			t.Fatalf("epoch %d: slot %d, errors %d, %d", i, place, why, reason)
		}
		d = e
	}
}

// Promise 5.2: what it refuses, the first that applies; the disk is as it was.
func TestWhatASaveRefuses(t *testing.T) {
	const full, room = 6, 5 // sectors of an image
	long := api.Image{Epoch: 9, Payload: strings.Repeat("x", api.MaxPayload+1)}
	longest := api.Image{Epoch: 9, Payload: long.Payload[1:]}
	older, oldest := long, longest
	older.Epoch, oldest.Epoch = 3, 3
	none := blank(few)
	inFirst := lay(t, blank(few), first.From, frameOf(image(5, 2)))
	inSecond := lay(t, inFirst, second.From, frameOf(image(6, 1)))
	for _, x := range []struct {
		name string
		d    api.Disk
		m    api.Image
		want api.Errno
	}{
		{"too long", none, long, api.ErrLong},
		{"too long, elder", inFirst, older, api.ErrLong},
		{"of the same epoch", inFirst, image(5, 1), api.ErrRange},
		{"of the epoch before", inFirst, image(4, 1), api.ErrRange},
		{"of epoch 0", inFirst, image(0, 1), api.ErrRange},
		{"of an epoch that the elder one has", inSecond, image(5, 1), api.ErrRange},
		{"of the newer one's epoch", inSecond, image(6, 1), api.ErrRange},
		{"elder, too great", inFirst, oldest, api.ErrRange},
		{"too great", none, longest, api.ErrSize},
		{"a sector too many for the first slot", none, image(9, first.Size), api.ErrSize},
		{"a sector too many for the second slot", inFirst, image(9, second.Size), api.ErrSize},
		{"a sector too many for the first slot, again", inSecond, image(9, first.Size), api.ErrSize},
	} {
		for _, fuse := range []int{-1, 0, 3} {
			d := again(x.d)
			d.Fuse = fuse
			d.Pending = []api.Write{{Sector: 0, Data: filled('p')}}
			if e, why := slots.Save(d, first, second, x.m); !like(e, d) || why != x.want {
				t.Errorf("%s: error %d", x.name, why)
			}
			d.Off = true
			if e, why := slots.Save(d, first, second, x.m); !like(e, d) || why != api.ErrPower {
				t.Errorf("%s, without power: error %d", x.name, why)
			}
		}
	}
	has(t, "as great as the first slot", saved(t, none, image(9, room-1)), image(9, room-1), 0)
	has(t, "as great as the second slot", saved(t, inFirst, image(9, full-1)), image(9, full-1), 1)
}

// Promise 5.2: the first error of a step stops it, the disk being as it is then.
func TestSaveToADiskWithoutRoomForWrites(t *testing.T) {
	d := blank(few)
	d.Pending = slices.Repeat([]api.Write{{Sector: 0, Data: filled('p')}}, api.MaxPending-1)
	m := image(1, 2)
	want := again(d)
	want.Pending = append(want.Pending, api.Write{Sector: 10, Data: sectorsOf(t, frameOf(m))[1]})
	if e, why := slots.Save(d, first, second, m); !like(e, want) || why != api.ErrMany {
		t.Errorf("%d pending, error %d", len(e.Pending), why)
	}
	// Of a head alone the sync comes ahead of any write.
	d.Pending = append(d.Pending, d.Pending[0])
	has(t, "a head alone", saved(t, d, image(1, 0)), image(1, 0), 0)
}

// after is what so many writes and syncs of a save leave of a disk: pieces, a sync, the head, a sync; the one behind them is that in which the power goes.
func after(d api.Disk, from int, s []string, fuse int) api.Disk {
	d = again(d)
	put := func(n int) func() {
		return func() { d.Pending = append(d.Pending, api.Write{Sector: from + n, Data: s[n]}) }
	}
	sync := func() {
		if d.Off {
			return
		}
		for _, w := range d.Pending {
			d.Sectors[w.Sector] = w.Data
		}
		d.Pending = nil
	}
	var steps []func()
	for i := range s[1:] {
		steps = append(steps, put(i+1))
	}
	for _, step := range append(steps, sync, put(0), sync) {
		d.Off = fuse == 0
		step()
		if d.Off {
			break
		}
		fuse--
	}
	d.Fuse = fuse
	return d
}

// Promise 5.2: where a save lays its frame, and in which order; wherever the power goes, the disk is as it is then.
func TestTheOrderOfTheSteps(t *testing.T) {
	inFirst := lay(t, blank(few), first.From, frameOf(image(5, 2)))
	inSecond := lay(t, inFirst, second.From, frameOf(image(6, 1)))
	alike := lay(t, inFirst, second.From, frameOf(image(5, 1)))
	for _, x := range []struct {
		d    api.Disk
		slot api.Region
	}{{blank(few), first}, {inFirst, second}, {inSecond, first}, {alike, second}, {lay(t, blank(few), second.From, frameOf(image(6, 1))), first}} {
		for pieces := range first.Size {
			m := image(9, pieces)
			for fuse := range pieces + 6 {
				d := again(x.d)
				d.Fuse = fuse
				d.Pending = []api.Write{{Sector: 0, Data: filled('p')}}
				want := after(d, x.slot.From, sectorsOf(t, frameOf(m)), fuse)
				reason := api.OK
				if want.Off {
					reason = api.ErrPower
				}
				if e, why := slots.Save(d, first, second, m); !like(e, want) || why != reason {
					t.Errorf("slot at %d, %d pieces, fuse %d: %d pending, %t, %d, error %d", x.slot.From, pieces, fuse, len(e.Pending), e.Off, e.Fuse, why)
				}
			}
		}
	}
}

// keeps yields all choices of what a crash may keep of so many writes.
func keeps(writes int) func(yield func([]bool) bool) {
	return func(yield func([]bool) bool) {
		for mask := range 1 << writes {
			keep := make([]bool, writes)
			for i := range keep {
				keep[i] = mask>>i&1 == 1
			}
			if !yield(keep) {
				return
			}
		}
	}
}

// oneOfBoth saves m with each fuse, and asks behind each crash that the image is what it was, in its slot, or m, in the other one.
func oneOfBoth(t *testing.T, d api.Disk, m api.Image) {
	t.Helper()
	old, place, none := slots.Load(d, first, second)
	next := 1 - place
	if none == api.ErrUnknown {
		next = 0
	}
	lost, kept := 0, 0
	for fuse := range len(sectorsOf(t, frameOf(m))) + 3 {
		d.Fuse = fuse
		e, why := slots.Save(d, first, second, m)
		if why != api.OK && why != api.ErrPower || e.Off != (why == api.ErrPower) {
			t.Fatalf("fuse %d: %t, error %d", fuse, e.Off, why)
		}
		for keep := range keeps(len(e.Pending)) {
			c, _ := sector.Crash(e, keep)
			got, slot, reason := slots.Load(c, first, second)
			switch {
			case got == m && slot == next && reason == api.OK:
				kept++
			case why == api.OK || got != old || slot != place || reason != none:
				t.Errorf("fuse %d, kept %v: epoch %d in slot %d, errors %d, %d", fuse, keep, got.Epoch, slot, why, reason)
			default:
				lost++
				// What the crash left does not stand in the way of the next save.
				has(t, "saved behind the crash", saved(t, c, m), m, next)
			}
		}
	}
	if lost == 0 || kept == 0 {
		t.Errorf("%d lost, %d kept", lost, kept)
	}
}

// Promises 5.4, 5.5, and P7: images saved one by one, with each fuse, and whatever a crash keeps.
func TestOneOfBoth(t *testing.T) {
	d := blank(few)
	for i, pieces := range []int{2, 4, 0, 3, 4, 1, 0, 0, 3} {
		m := image(uint64(3*i), pieces)
		oneOfBoth(t, d, m)
		d.Fuse = -1
		d = saved(t, d, m)
		has(t, "saved", d, m, i%2)
	}
}

// Promise 5.4, and example 3 of the whole: while a third one is saved the second one stays; what was answered OK is there behind any crash, whatever is written outside of its slot.
func TestTheSecondOneStays(t *testing.T) {
	two := saved(t, saved(t, blank(few), image(1, 2)), image(2, 3))
	has(t, "the newer one", two, image(2, 3), 1)
	d := two
	for n := range few {
		if n >= second.From && n < second.From+second.Size {
			continue
		}
		var why api.Errno
		if d, why = sector.Put(d, n, filled('w')); why != api.OK {
			t.Fatalf("Put: error %d", why)
		}
	}
	for keep := range keeps(len(d.Pending)) {
		c, _ := sector.Crash(d, keep)
		has(t, "behind a crash", c, image(2, 3), 1)
	}
}

// Promises 5.4 and 5.5, of many saves and crashes: the image is the last one that was answered OK, or the one in which the power went.
func TestManyCrashes(t *testing.T) {
	r := rand.New(rand.NewSource(5))
	for range 40 {
		d, last, slot := blank(few), api.Image{}, 1
		for epoch := uint64(1); epoch < 60; epoch += 1 + uint64(r.Intn(2)) {
			m := image(epoch, r.Intn(5))
			d.Fuse = r.Intn(14)
			e, why := slots.Save(d, first, second, m)
			keep := make([]bool, len(e.Pending))
			for i := range keep {
				keep[i] = r.Intn(2) == 0
			}
			d, _ = sector.Crash(e, keep)
			got, _, _ := slots.Load(d, first, second)
			if why == api.OK || why == api.ErrPower && got == m {
				last, slot = m, 1-slot
			}
			if last == (api.Image{}) {
				hasNone(t, "nothing saved so far", d)
				continue
			}
			has(t, "behind a crash", d, last, slot)
		}
	}
}

// spoil writes over all that a disk's lists have.
func spoil(d api.Disk) {
	for i := range d.Sectors[:cap(d.Sectors)] {
		d.Sectors[:cap(d.Sectors)][i] = "spoilt"
	}
	clear(d.Pending[:cap(d.Pending)])
}

// Promise 5.3, and P3: nothing that is handed in is changed or kept, room behind a list is no matter, and answers share no memory.
func TestNewMemory(t *testing.T) {
	some := lay(t, blank(few), first.From, frameOf(image(5, 2)))
	some.Pending = []api.Write{{Sector: 0, Data: filled('p')}, {Sector: 1, Data: filled('q')}}
	off, fused := again(some), again(some)
	off.Off, fused.Fuse = true, 2
	images := []api.Image{image(6, 0), image(6, 3), image(5, 1), image(6, second.Size), {Payload: strings.Repeat("x", api.MaxPayload+1)}}
	for _, given := range []api.Disk{blank(few), some, off, fused} {
		for _, m := range images {
			d := again(given)
			// Room that only who made the lists may fill.
			d.Sectors = append(d.Sectors, filled('0'))[:few]
			d.Pending = append(d.Pending, api.Write{Sector: 3, Data: filled('1')})[:len(given.Pending)]
			one, why := slots.Save(d, first, second, m)
			two, reason := slots.Save(d, first, second, m)
			if !like(one, two) || why != reason || !like(d, given) {
				t.Fatalf("error %d: another answer, or what was handed in is changed", why)
			}
			if d.Sectors[:few+1][few] != filled('0') || d.Pending[:len(given.Pending)+1][len(given.Pending)].Sector != 3 {
				t.Fatalf("error %d: the room behind a list is written", why)
			}
			want := again(two)
			spoil(one)
			if !like(d, given) || !like(two, want) {
				t.Fatalf("error %d: an answer shares memory", why)
			}
			spoil(d)
			if !like(two, want) {
				t.Fatalf("error %d: what was handed in is kept", why)
			}
		}
	}
}

// Promise 5.3 of Load: it changes nothing, and answers the same each time.
func TestLoadChangesNothing(t *testing.T) {
	d := lay(t, blank(few), first.From, frameOf(image(5, 2)))
	before := again(d)
	for range 3 {
		has(t, "the same", d, image(5, 2), 0)
	}
	if !like(d, before) {
		t.Error("what was handed in is changed")
	}
}

// P4.
func TestNoGoroutineIsLeft(t *testing.T) {
	before := runtime.NumGoroutine()
	d := saved(t, blank(few), image(1, 2))
	for _, m := range []api.Image{image(1, 1), image(2, 1), image(2, 9)} {
		slots.Check(d, first, second)
		slots.Load(d, first, second)
		slots.Save(d, first, second, m)
		slots.Save(d, first, first, m)
	}
	if after := runtime.NumGoroutine(); after > before {
		t.Errorf("%d goroutines, before %d", after, before)
	}
}
