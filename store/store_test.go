package store_test

import (
	"math"
	"reflect"
	"runtime"
	"slices"
	"strings"
	"testing"

	"lictor/api"
	"lictor/change"
	"lictor/fresh"
	"lictor/record"
	"lictor/sector"
	"lictor/slots"
	"lictor/store"
	"lictor/wal"
	"lictor/window"
)

// few is how many sectors the disks of most tests have: slots of 8, a log of 16.
const few = 32

// open is a policy's text.
const open = `permit(principal, action, resource);`

// Changes of each kind.

func schemaIs(s string) api.Change { return api.Change{Kind: api.ChangeSchema, Text: s} }

func policyIs(id, s string) api.Change { return api.Change{Kind: api.ChangePolicy, Id: id, Text: s} }

func forget(id string) api.Change { return api.Change{Kind: api.ChangeForget, Id: id} }

func entityIs(s string) api.Change { return api.Change{Kind: api.ChangeEntity, Text: s} }

func drop(kind, id string) api.Change {
	return api.Change{Kind: api.ChangeDrop, Uid: api.Uid{Type: kind, Id: id}}
}

// list is any many changes.
func list(l ...api.Change) []api.Change { return l }

// long is a list whose bytes are more than a frame has, though each text is as long as may be.
func long() []api.Change {
	var l []api.Change
	for i := range 9 {
		l = append(l, policyIs(string(rune('a'+i)), open+strings.Repeat(" ", api.MaxText-len(open))))
	}
	return l
}

// filled is what a sector may hold: one byte, again and again.
func filled(b byte) string {
	return strings.Repeat(string([]byte{b}), api.SectorSize)
}

// blank is a disk that holds nothing.
func blank(t *testing.T, sectors int) api.Disk {
	t.Helper()
	d, why := sector.New(sectors)
	if why != api.OK {
		t.Fatalf("New: error %d", why)
	}
	return d
}

// regions are those of a disk.
func regions(t *testing.T, d api.Disk) (api.Region, api.Region, api.Region) {
	t.Helper()
	a, b, log, why := store.Regions(len(d.Sectors))
	if why != api.OK {
		t.Fatalf("Regions: error %d", why)
	}
	return a, b, log
}

// formatted is a store on a disk that held nothing.
func formatted(t *testing.T, sectors int) api.Store {
	t.Helper()
	s, why := store.Format(blank(t, sectors))
	if why != api.OK {
		t.Fatalf("Format: error %d", why)
	}
	return s
}

// committed is a store with commits behind it.
func committed(t *testing.T, s api.Store, lists ...[]api.Change) api.Store {
	t.Helper()
	for _, l := range lists {
		next, n, why, place := store.Commit(s, l)
		last, _ := window.Last(next.Versions)
		if why != api.OK || place != len(l) || n != last {
			t.Fatalf("Commit of %v: %d, error %d at %d", l, n, why, place)
		}
		s = next
	}
	return s
}

// checked is a store behind a checkpoint.
func checked(t *testing.T, s api.Store) api.Store {
	t.Helper()
	s, why := store.Checkpoint(s)
	if why != api.OK {
		t.Fatalf("Checkpoint: error %d", why)
	}
	return s
}

// opened is the store that lies on a disk.
func opened(t *testing.T, d api.Disk) api.Store {
	t.Helper()
	s, why := store.Open(d)
	if why != api.OK {
		t.Fatalf("Open: error %d", why)
	}
	return s
}

// saved is a disk with an image in its slots.
func saved(t *testing.T, d api.Disk, epoch uint64, payload string) api.Disk {
	t.Helper()
	a, b, _ := regions(t, d)
	d, why := slots.Save(d, a, b, api.Image{Epoch: epoch, Payload: payload})
	if why != api.OK {
		t.Fatalf("Save: error %d", why)
	}
	return d
}

// appended is a disk with frames in its log, from its beginning on.
func appended(t *testing.T, d api.Disk, frames ...api.Frame) api.Disk {
	t.Helper()
	_, _, log := regions(t, d)
	at := 0
	for _, f := range frames {
		var why api.Errno
		if d, at, why = wal.Append(d, log, at, f); why != api.OK {
			t.Fatalf("Append: error %d", why)
		}
	}
	return d
}

// packed are the bytes of versions.
func packed(t *testing.T, v api.Versions) string {
	t.Helper()
	s, why := window.Pack(v)
	if why != api.OK {
		t.Fatalf("Pack: error %d", why)
	}
	return s
}

// commitOf is the frame of a commit.
func commitOf(t *testing.T, epoch, seq uint64, l []api.Change) api.Frame {
	t.Helper()
	s, why := change.Pack(l)
	if why != api.OK {
		t.Fatalf("Pack: error %d", why)
	}
	return api.Frame{Kind: 1, Epoch: epoch, Seq: seq, Payload: s}
}

// The following tell whether plain things are alike, empty lists being as none.

func like(a, b api.Store) bool { return reflect.DeepEqual(fresh.Store(a), fresh.Store(b)) }

func likeDisk(a, b api.Disk) bool { return reflect.DeepEqual(fresh.Disk(a), fresh.Disk(b)) }

func likeVersions(a, b api.Versions) bool {
	return reflect.DeepEqual(fresh.Versions(a), fresh.Versions(b))
}

// The sections Limits and Errors, as far as they speak of stores.
func TestLimitsAndErrors(t *testing.T) {
	if api.MaxSectors != 1024 || api.MaxFrames != 1024 || api.MaxPayload != 16384 || api.MaxPending != 4096 || api.Window != 4 {
		t.Error("a limit is another one")
	}
	if api.OK != 0 || api.ErrRange != 1 || api.ErrMany != 2 || api.ErrLong != 3 || api.ErrSyntax != 5 || api.ErrUnknown != 9 || api.ErrOver != 11 || api.ErrState != 13 || api.ErrForm != 14 || api.ErrPower != 15 || api.ErrFull != 16 || api.ErrSize != 17 {
		t.Error("an error's number is another one")
	}
}

// Words, promise 18.1 of Regions, and example 1.
func TestRegions(t *testing.T) {
	a, b, log, why := store.Regions(16)
	if a != (api.Region{From: 0, Size: 4}) || b != (api.Region{From: 4, Size: 4}) || log != (api.Region{From: 8, Size: 8}) || why != api.OK {
		t.Errorf("16 sectors: %v, %v, %v, error %d", a, b, log, why)
	}
	for n := 8; n <= 1024; n++ {
		a, b, log, why := store.Regions(n)
		if why != api.OK || a.From != 0 || a.Size != b.Size || b.From != a.Size || log.From != 2*a.Size || log.From+log.Size != n || 4*a.Size > n || 4*a.Size+4 <= n {
			t.Errorf("%d sectors: %v, %v, %v, error %d", n, a, b, log, why)
		}
	}
	for _, n := range []int{math.MinInt, -1 << 32, -16, -1, 0, 1, 4, 7, 1025, 1026, 4096, 1<<32 + 16, math.MaxInt} {
		if a, b, log, why := store.Regions(n); why != api.ErrRange || a != (api.Region{}) || b != a || log != a {
			t.Errorf("%d sectors: %v, %v, %v, error %d", n, a, b, log, why)
		}
	}
}

// refused asks that each call of a store that is not right is ErrState, and answers nothing beside it.
func refused(t *testing.T, name string, s api.Store) {
	t.Helper()
	if why := store.Check(s); why != api.ErrState {
		t.Errorf("Check, %s: error %d", name, why)
	}
	for i, l := range [][]api.Change{nil, list(forget("none")), make([]api.Change, 17)} {
		if next, n, why, place := store.Commit(s, l); !like(next, api.Store{}) || n != 0 || why != api.ErrState || place != 0 {
			t.Errorf("Commit of list %d, %s: %d, error %d at %d", i, name, n, why, place)
		}
	}
	if next, why := store.Checkpoint(s); !like(next, api.Store{}) || why != api.ErrState {
		t.Errorf("Checkpoint, %s: error %d", name, why)
	}
}

// Words, promises 18.1 of Check, 18.2, 18.3, and P2: stores that are not right, each for another reason.
func TestWrongStores(t *testing.T) {
	for name, spoil := range map[string]func(s *api.Store){
		"nothing":              func(s *api.Store) { *s = api.Store{} },
		"no disk":              func(s *api.Store) { s.Disk = api.Disk{} },
		"a sector too short":   func(s *api.Store) { s.Disk.Sectors[31] = "short" },
		"a write to no sector": func(s *api.Store) { s.Disk.Pending = []api.Write{{Sector: few, Data: filled('x')}} },
		"seven sectors":        func(s *api.Store) { s.Disk.Sectors, s.At = s.Disk.Sectors[:7], 0 },
		"1025 sectors":         func(s *api.Store) { s.Disk.Sectors = slices.Repeat([]string{filled('x')}, 1025) },
		"no versions":          func(s *api.Store) { s.Versions = api.Versions{} },
		"five versions": func(s *api.Store) {
			s.Versions = api.Versions{States: make([]api.State, 5), Lists: make([][]api.Change, 4)}
		},
		"a list too many":           func(s *api.Store) { s.Versions.Lists = append(s.Versions.Lists, nil) },
		"a first version too great": func(s *api.Store) { s.Versions.First = 1<<63 + 1 },
		"epoch 0":                   func(s *api.Store) { s.Epoch = 0 },
		"ahead of the log":          func(s *api.Store) { s.At = -1 },
		"the least place":           func(s *api.Store) { s.At = math.MinInt },
		"behind the log's end":      func(s *api.Store) { s.At = 17 },
		"the greatest place":        func(s *api.Store) { s.At = math.MaxInt },
		"less than no frames":       func(s *api.Store) { s.Count = -1 },
		"the least count":           func(s *api.Store) { s.Count = math.MinInt },
		"too many frames":           func(s *api.Store) { s.Count = 1025 },
		"the greatest count":        func(s *api.Store) { s.Count = math.MaxInt },
	} {
		for _, off := range []bool{false, true} {
			s := committed(t, formatted(t, few), list(policyIs("p", open)))
			spoil(&s)
			s.Disk.Off = off
			refused(t, name, s)
		}
	}
}

// Words, and promise 18.1 of Check: stores that are right, at the edges.
func TestRightStores(t *testing.T) {
	for name, edge := range map[string]func(s *api.Store){
		"as it is":                      func(s *api.Store) {},
		"at the log's beginning":        func(s *api.Store) { s.At = 0 },
		"at its end":                    func(s *api.Store) { s.At = 16 },
		"no frames":                     func(s *api.Store) { s.Count = 0 },
		"as many as may be":             func(s *api.Store) { s.Count = 1024 },
		"epoch 1":                       func(s *api.Store) { s.Epoch = 1 },
		"the greatest epoch":            func(s *api.Store) { s.Epoch = math.MaxUint64 },
		"without power":                 func(s *api.Store) { s.Disk.Off = true },
		"writes that wait":              func(s *api.Store) { s.Disk.Pending = []api.Write{{Sector: 3, Data: filled('x')}} },
		"eight sectors":                 func(s *api.Store) { s.Disk.Sectors, s.At = s.Disk.Sectors[:8], 4 },
		"as many sectors as may be":     func(s *api.Store) { s.Disk.Sectors, s.At = slices.Repeat([]string{filled('x')}, 1024), 512 },
		"the greatest first version":    func(s *api.Store) { s.Versions.First = 1 << 63 },
		"versions that are not right":   func(s *api.Store) { s.Versions.States[0] = api.State{Policies: make([]api.Named, 1)} },
		"a log that is not on its disk": func(s *api.Store) { s.Epoch, s.At, s.Count = 9, 3, 700 },
	} {
		s := committed(t, formatted(t, few), list(policyIs("p", open)))
		edge(&s)
		if why := store.Check(s); why != api.OK {
			t.Errorf("%s: error %d", name, why)
		}
	}
}

// Promise 18.1 of Format: the store, its disk with the snapshot, on disks that hold something or nothing.
func TestFormat(t *testing.T) {
	fresh := packed(t, window.New())
	log := appended(t, saved(t, blank(t, few), 3, "anything"), commitOf(t, 3, 0, nil), commitOf(t, 3, 1, nil))
	waiting := blank(t, few)
	waiting.Pending = []api.Write{{Sector: 2, Data: filled('w')}}
	fused := blank(t, few)
	fused.Fuse = 4
	for name, x := range map[string]struct {
		d     api.Disk
		epoch uint64
	}{
		"eight sectors": {blank(t, 8), 1}, "nine": {blank(t, 9), 1}, "1024": {blank(t, 1024), 1}, "an image of epoch 0": {saved(t, blank(t, few), 0, ""), 1}, "an image that is none of versions": {saved(t, blank(t, few), 7, "x"), 8}, "a log": {log, 4}, "two images": {saved(t, log, 6, "x"), 7}, "an epoch ahead of the greatest": {saved(t, blank(t, few), math.MaxUint64-1, ""), math.MaxUint64}, "writes that wait": {waiting, 1}, "just enough power": {fused, 1},
	} {
		s, why := store.Format(x.d)
		want := saved(t, x.d, x.epoch, fresh)
		if why != api.OK || !like(s, api.Store{Disk: want, Versions: window.New(), Epoch: x.epoch}) {
			t.Errorf("%s: epoch %d, %v, %d, %d, error %d", name, s.Epoch, s.Versions, s.At, s.Count, why)
		}
		if again := opened(t, s.Disk); !like(again, s) {
			t.Errorf("%s: opened it is another one", name)
		}
	}
}

// alone asks that a store has a disk and nothing else, beside an error.
func alone(t *testing.T, name string, s api.Store, d api.Disk, why, want api.Errno) {
	t.Helper()
	if why != want || !like(s, api.Store{Disk: d}) {
		t.Errorf("%s: epoch %d, %v, %d, %d, error %d, not %d", name, s.Epoch, s.Versions, s.At, s.Count, why, want)
	}
}

// Promise 18.1 of Format, and P2: what it refuses, the first that applies.
func TestWhatFormatRefuses(t *testing.T) {
	short := blank(t, 16)
	short.Sectors[3] = "short"
	for name, d := range map[string]api.Disk{"nothing": {}, "a short sector": short, "too many": {Sectors: slices.Repeat([]string{filled('x')}, 1025)}, "nothing, off": {Off: true}} {
		if s, why := store.Format(d); why != api.ErrState || !like(s, api.Store{}) {
			t.Errorf("Format, %s: error %d", name, why)
		}
		if s, why := store.Open(d); why != api.ErrState || !like(s, api.Store{}) {
			t.Errorf("Open, %s: error %d", name, why)
		}
	}
	greatest := saved(t, blank(t, few), math.MaxUint64, "")
	off, full := greatest, blank(t, few)
	off.Off = true
	full.Pending = slices.Repeat([]api.Write{{Sector: 9, Data: filled('w')}}, api.MaxPending)
	a, b, _ := regions(t, full)
	for name, x := range map[string]struct {
		d    api.Disk
		want api.Errno
	}{"one sector": {blank(t, 1), api.ErrRange}, "seven": {blank(t, 7), api.ErrRange}, "seven, off": {api.Disk{Sectors: blank(t, 7).Sectors, Off: true}, api.ErrRange}, "off": {off, api.ErrPower}, "the greatest epoch": {greatest, api.ErrOver}, "no room for writes": {full, api.ErrMany}} {
		s, why := store.Format(x.d)
		alone(t, name, s, x.d, why, x.want)
	}
	greatest.Fuse = 0
	s, why := store.Format(greatest)
	alone(t, "the greatest epoch, no power left", s, greatest, why, api.ErrOver)
	full.Pending = full.Pending[1:]
	want, reason := slots.Save(full, a, b, api.Image{Epoch: 1, Payload: packed(t, window.New())})
	if s, why = store.Format(full); reason != api.OK || why != api.OK || !likeDisk(s.Disk, want) {
		t.Errorf("room for one write: errors %d, %d", reason, why)
	}
	for fuse := range 4 {
		for i, d := range []api.Disk{blank(t, few), saved(t, blank(t, few), 4, "x")} {
			d.Fuse = fuse
			want, reason := slots.Save(d, a, b, api.Image{Epoch: uint64(1 + 4*i), Payload: packed(t, window.New())})
			s, why := store.Format(d)
			alone(t, "no power left", s, want, why, api.ErrPower)
			if reason != api.ErrPower || !s.Disk.Off {
				t.Errorf("fuse %d: error %d", fuse, reason)
			}
		}
	}
}

// Promise 18.2: commits one behind the other, their frames, and what is answered.
func TestCommit(t *testing.T) {
	s := checked(t, formatted(t, 64))
	v := window.New()
	lists := [][]api.Change{nil, list(policyIs("p", open)), list(schemaIs("entity A {};"), entityIs(`A::"a" {};`), forget("p")), nil, list(drop("A", "a"), policyIs("q", open)), list(forget("q"))}
	at := 0
	for i, l := range lists {
		next, n, why, place := store.Commit(s, l)
		f := commitOf(t, 2, uint64(i), l)
		_, _, log := regions(t, s.Disk)
		d, end, reason := wal.Append(s.Disk, log, at, f)
		v, _, _ = window.Commit(v, l)
		if n != uint64(i)+1 || why != api.OK || reason != api.OK || place != len(l) {
			t.Fatalf("commit %d: %d, error %d at %d", i, n, why, place)
		}
		if !like(next, api.Store{Disk: d, Versions: v, Epoch: 2, At: end, Count: i + 1}) {
			t.Fatalf("commit %d: epoch %d, at %d, not %d, %d frames, %v", i, next.Epoch, next.At, end, next.Count, next.Versions)
		}
		if !like(opened(t, next.Disk), next) {
			t.Fatalf("commit %d: opened it is another one", i)
		}
		s, at = next, end
	}
	s.Versions.First = 1<<63 - 1
	if _, n, why, _ := store.Commit(s, nil); n != 1<<63+3 || why != api.OK {
		t.Errorf("the greatest version: %d, error %d", n, why)
	}
}

// kept asks that a refused call leaves a store as it was, but for its disk.
func kept(t *testing.T, name string, got, s api.Store, d api.Disk) {
	t.Helper()
	s.Disk = d
	if !like(got, s) {
		t.Errorf("%s: the store is another one: epoch %d, at %d, %d frames, off %t, %d pending", name, got.Epoch, got.At, got.Count, got.Disk.Off, len(got.Disk.Pending))
	}
}

// Promise 18.2, and P2: what a commit refuses, the first that applies.
func TestWhatACommitRefuses(t *testing.T) {
	house := committed(t, formatted(t, few), list(policyIs("p", open)))
	great := committed(t, formatted(t, 1024), list(policyIs("p", open)))
	late := list(forget("p"), forget("none"))
	odd := list(policyIs("q", open), forget("p"), api.Change{})
	for name, x := range map[string]struct {
		s     api.Store
		spoil func(s *api.Store)
		l     []api.Change
		want  api.Errno
		at    int
	}{
		"off":                                 {house, func(s *api.Store) { s.Disk.Off = true }, nil, api.ErrPower, 0},
		"off, no such policy":                 {house, func(s *api.Store) { s.Disk.Off = true }, late, api.ErrPower, 0},
		"no such policy":                      {house, func(s *api.Store) {}, late, api.ErrUnknown, 1},
		"that, no power left":                 {house, func(s *api.Store) { s.Disk.Fuse = 0 }, late, api.ErrUnknown, 1},
		"that, as many frames as may be":      {house, func(s *api.Store) { s.Count = 1024 }, late, api.ErrUnknown, 1},
		"that, no room":                       {house, func(s *api.Store) { s.At = 16 }, late, api.ErrUnknown, 1},
		"a change that is none":               {house, func(s *api.Store) {}, odd, api.ErrSyntax, 2},
		"too many changes":                    {house, func(s *api.Store) {}, make([]api.Change, 17), api.ErrMany, 0},
		"what does not fit":                   {house, func(s *api.Store) {}, list(entityIs(`A::"a" {};`)), api.ErrUnknown, 0},
		"the greatest version":                {house, func(s *api.Store) { s.Versions.First = 1 << 63 }, late, api.ErrOver, 0},
		"a last state that is not right":      {house, func(s *api.Store) { s.Versions.States[1].Policies[0].Id = "" }, late, api.ErrState, 0},
		"as many frames as may be":            {house, func(s *api.Store) { s.Count = 1024 }, nil, api.ErrFull, 0},
		"so many frames, and too long":        {great, func(s *api.Store) { s.Count = 1024 }, long(), api.ErrFull, 0},
		"so many frames, no power left":       {house, func(s *api.Store) { s.Count, s.Disk.Fuse = 1024, 0 }, nil, api.ErrFull, 0},
		"too long":                            {great, func(s *api.Store) {}, long(), api.ErrLong, 0},
		"too long, no room":                   {house, func(s *api.Store) { s.At = 16 }, long(), api.ErrLong, 0},
		"too long, no power left":             {great, func(s *api.Store) { s.Disk.Fuse = 0 }, long(), api.ErrLong, 0},
		"no room":                             {house, func(s *api.Store) { s.At = 16 }, nil, api.ErrFull, 0},
		"room for a head":                     {house, func(s *api.Store) { s.At = 15 }, nil, api.ErrFull, 0},
		"room for a piece too few":            {house, func(s *api.Store) { s.At = 13 }, list(policyIs("q", open), policyIs("r", open), policyIs("s", open)), api.ErrFull, 0},
		"no room, no power left":              {house, func(s *api.Store) { s.At, s.Disk.Fuse = 15, 0 }, nil, api.ErrFull, 0},
		"a frame less than as many as may be": {house, func(s *api.Store) { s.Count = 1023 }, late[:1], api.OK, 1},
		"just room":                           {house, func(s *api.Store) { s.At = 14 }, late[:1], api.OK, 1},
	} {
		s := fresh.Store(x.s)
		x.spoil(&s)
		next, n, why, place := store.Commit(s, x.l)
		if why != x.want || place != x.at || (n != 0) != (why == api.OK) {
			t.Errorf("%s: %d, error %d at %d, not error %d at %d", name, n, why, place, x.want, x.at)
		}
		if why != api.OK {
			kept(t, name, next, s, s.Disk)
		}
	}
}

// Promise 18.2: what the disk refuses, wherever it does; the disk is as it is then.
func TestCommitToADiskThatRefuses(t *testing.T) {
	s := committed(t, formatted(t, few), list(policyIs("p", open)))
	_, _, log := regions(t, s.Disk)
	l := list(policyIs("q", open), policyIs("r", open))
	f := commitOf(t, s.Epoch, 1, l)
	// Two pieces, a sync, the head, a sync.
	for fuse := range 5 {
		for _, pending := range []int{0, 1, api.MaxPending - 1, api.MaxPending} {
			s := fresh.Store(s)
			s.Disk.Fuse, s.Disk.Pending = fuse, slices.Repeat([]api.Write{{Sector: 30, Data: filled('w')}}, pending)
			d, _, want := wal.Append(s.Disk, log, s.At, f)
			next, n, why, place := store.Commit(s, l)
			if why != want || why == api.OK || n != 0 || place != 0 {
				t.Errorf("fuse %d, %d pending: %d, error %d at %d, not error %d", fuse, pending, n, why, place, want)
			}
			kept(t, "a disk that refuses", next, s, d)
		}
	}
}

// Promise 18.3: checkpoints one behind the other, with commits between.
func TestCheckpoint(t *testing.T) {
	s := formatted(t, 64)
	for epoch := uint64(2); epoch < 12; epoch++ {
		for i := range int(epoch) % 4 {
			s = committed(t, s, list(policyIs(string(rune('a'+i)), open)))
		}
		want := saved(t, s.Disk, epoch, packed(t, s.Versions))
		next, why := store.Checkpoint(s)
		if why != api.OK || !like(next, api.Store{Disk: want, Versions: s.Versions, Epoch: epoch}) {
			t.Fatalf("epoch %d: epoch %d, at %d, %d frames, error %d", epoch, next.Epoch, next.At, next.Count, why)
		}
		if !like(opened(t, next.Disk), next) {
			t.Fatalf("epoch %d: opened it is another one", epoch)
		}
		s = next
	}
}

// sized is a store on whose disk all is well, and whose versions have so many bytes more than it has at least: policies' texts with spaces, in its lists.
func sized(t *testing.T, sectors, more int) api.Store {
	t.Helper()
	v := window.New()
	for i := range 3 {
		var l []api.Change
		for k := range 3 {
			n := min(more, api.MaxText-len(open))
			more -= n
			l = append(l, policyIs(string(rune('a'+k)), open+strings.Repeat(" ", n)))
		}
		var why api.Errno
		if v, why, _ = window.Commit(v, l); why != api.OK {
			t.Fatalf("Commit %d: error %d", i, why)
		}
	}
	s := formatted(t, sectors)
	s.Versions = v
	return s
}

// Promise 18.3, and P2: what a checkpoint refuses, the first that applies.
func TestWhatACheckpointRefuses(t *testing.T) {
	const tight = 64
	house := committed(t, formatted(t, tight), list(policyIs("p", open)))
	least := len(packed(t, sized(t, 1024, 0).Versions))
	// A slot of 16 sectors has room for 15 pieces.
	room := 15*61 - least
	changes := func(l []api.Change) func(s *api.Store) { return func(s *api.Store) { s.Versions.Lists[0] = l } }
	both := func(l ...func(s *api.Store)) func(s *api.Store) {
		return func(s *api.Store) {
			for _, do := range l {
				do(s)
			}
		}
	}
	off := func(s *api.Store) { s.Disk.Off = true }
	last := func(s *api.Store) { s.Epoch = math.MaxUint64 }
	wrong := func(s *api.Store) { s.Versions.States[0] = api.State{Policies: make([]api.Named, 1)} }
	newer := func(s *api.Store) { s.Disk = saved(t, s.Disk, 9, "x") }
	cut := func(s *api.Store) { s.Disk.Fuse = 0 }
	as := func(s *api.Store) {}
	spaces := list(policyIs("p", strings.Repeat(" ", 2049)))
	for name, x := range map[string]struct {
		s     api.Store
		spoil func(s *api.Store)
		want  api.Errno
	}{
		"off":                              {house, off, api.ErrPower},
		"off, the greatest epoch":          {house, both(off, last, wrong), api.ErrPower},
		"the greatest epoch":               {house, last, api.ErrOver},
		"that, a first state not right":    {house, both(last, wrong, cut), api.ErrOver},
		"a first state not right":          {house, wrong, api.ErrState},
		"no right state, an epoch too low": {house, both(wrong, newer, cut), api.ErrState},
		"a list of too many":               {house, changes(make([]api.Change, 256)), api.ErrMany},
		"a list that is none":              {house, changes(list(api.Change{})), api.ErrSyntax},
		"a text of a list too long":        {house, changes(spaces), api.ErrLong},
		"too long, and an epoch too low":   {house, both(changes(spaces), newer), api.ErrLong},
		"longer than a frame":              {sized(t, 1024, api.MaxPayload-least+1), as, api.ErrSize},
		"longer, and an epoch too low":     {sized(t, 1024, api.MaxPayload-least+1), newer, api.ErrSize},
		"as long as a frame":               {sized(t, 1024, api.MaxPayload-least), as, api.ErrSize},
		"as long as a frame, an epoch low": {sized(t, 1024, api.MaxPayload-least), newer, api.ErrRange},
		"longer than a great slot":         {sized(t, 1024, 255*61-least+1), as, api.ErrSize},
		"as long as a great slot":          {sized(t, 1024, 255*61-least), as, api.OK},
		"longer than a slot":               {sized(t, tight, room+1), as, api.ErrSize},
		"that, no power left":              {sized(t, tight, room+1), cut, api.ErrSize},
		"that, and an epoch too low, too":  {sized(t, tight, room+1), newer, api.ErrRange},
		"as long as a slot":                {sized(t, tight, room), as, api.OK},
		"an epoch too low":                 {house, newer, api.ErrRange},
		"an epoch just too low":            {house, both(newer, func(s *api.Store) { s.Epoch = 8 }), api.ErrRange},
		"an epoch just not too low":        {house, both(newer, func(s *api.Store) { s.Epoch = 9 }), api.OK},
		"an epoch ahead of the greatest":   {house, func(s *api.Store) { s.Epoch = math.MaxUint64 - 1 }, api.OK},
		"without any image":                {house, func(s *api.Store) { s.Disk = blank(t, tight) }, api.OK},
	} {
		s := fresh.Store(x.s)
		x.spoil(&s)
		next, why := store.Checkpoint(s)
		if why != x.want {
			t.Errorf("%s: error %d, not %d", name, why, x.want)
		}
		if why != api.OK {
			kept(t, name, next, s, s.Disk)
		} else if next.Epoch != s.Epoch+1 || next.At != 0 || next.Count != 0 {
			t.Errorf("%s: epoch %d, at %d, %d frames", name, next.Epoch, next.At, next.Count)
		}
	}
}

// Promise 18.3: what the disk refuses, wherever it does; the disk is as it is then.
func TestCheckpointOnADiskThatRefuses(t *testing.T) {
	s := committed(t, formatted(t, few), list(policyIs("p", open)))
	a, b, _ := regions(t, s.Disk)
	for fuse := range 5 {
		for _, pending := range []int{0, 1, api.MaxPending - 1, api.MaxPending} {
			s := fresh.Store(s)
			s.Disk.Fuse, s.Disk.Pending = fuse, slices.Repeat([]api.Write{{Sector: 30, Data: filled('w')}}, pending)
			d, want := slots.Save(s.Disk, a, b, api.Image{Epoch: 2, Payload: packed(t, s.Versions)})
			next, why := store.Checkpoint(s)
			if why != want || why == api.OK && pending == api.MaxPending {
				t.Errorf("fuse %d, %d pending: error %d, not %d", fuse, pending, why, want)
			}
			if why != api.OK {
				kept(t, "a disk that refuses", next, s, d)
			}
		}
	}
}

// Promise 18.1 of Open, and P2: what it refuses, and that its disk is told beside that.
func TestWhatOpenRefuses(t *testing.T) {
	none := packed(t, window.New())
	end := window.New()
	end.First = 1 << 63
	good := saved(t, blank(t, few), 3, none)
	off, small := good, blank(t, 7)
	off.Off, small.Off = true, true
	one := commitOf(t, 3, 0, list(policyIs("p", open)))
	of := func(kind uint8, seq uint64, payload string) api.Frame {
		return api.Frame{Kind: kind, Epoch: 3, Seq: seq, Payload: payload}
	}
	for name, x := range map[string]struct {
		d    api.Disk
		want api.Errno
	}{
		"one sector":                      {blank(t, 1), api.ErrRange},
		"seven sectors, off":              {small, api.ErrRange},
		"off":                             {off, api.ErrPower},
		"off, no image":                   {api.Disk{Sectors: blank(t, few).Sectors, Off: true}, api.ErrPower},
		"no image":                        {blank(t, few), api.ErrUnknown},
		"no image, but a log":             {appended(t, blank(t, few), one), api.ErrUnknown},
		"an image of epoch 0":             {saved(t, blank(t, few), 0, none), api.ErrForm},
		"no versions":                     {saved(t, blank(t, few), 3, ""), api.ErrForm},
		"bytes that are none":             {saved(t, blank(t, few), 3, "x"), api.ErrForm},
		"a byte more":                     {saved(t, blank(t, few), 3, none+"\x00"), api.ErrForm},
		"none, though an elder one is":    {saved(t, good, 4, none[1:]), api.ErrForm},
		"a frame of kind 2":               {appended(t, good, of(2, 0, "\x00")), api.ErrForm},
		"a second one of kind 255":        {appended(t, good, one, of(255, 1, "\x00")), api.ErrForm},
		"a frame without a payload":       {appended(t, good, of(1, 0, "")), api.ErrForm},
		"a payload that is no list":       {appended(t, good, one, of(1, 1, "\x01")), api.ErrForm},
		"a list that may not be done":     {appended(t, good, commitOf(t, 3, 0, list(forget("p")))), api.ErrForm},
		"that, the second one":            {appended(t, good, one, commitOf(t, 3, 1, list(forget("q")))), api.ErrForm},
		"that, the one ahead of the last": {appended(t, good, commitOf(t, 3, 0, list(forget("q"))), commitOf(t, 3, 1, nil)), api.ErrForm},
		"more than a transaction has":     {appended(t, good, commitOf(t, 3, 0, slices.Repeat(list(forget("p")), 17))), api.ErrForm},
		"a commit behind the greatest":    {appended(t, saved(t, blank(t, few), 3, packed(t, end)), one), api.ErrForm},
	} {
		for _, fuse := range []int{-1, 0} {
			x.d.Fuse = fuse
			s, why := store.Open(x.d)
			alone(t, name, s, x.d, why, x.want)
		}
	}
}

// Promise 18.1 of Open, and words: which snapshot, and which frames are its log.
func TestWhatIsOpened(t *testing.T) {
	none := packed(t, window.New())
	good := saved(t, blank(t, few), 3, none)
	one, two := list(policyIs("p", open)), list(forget("p"))
	v := window.New()
	v, _, _ = window.Commit(v, one)
	w, _, _ := window.Commit(v, two)
	greatest := window.New()
	greatest.First = 1 << 63
	_, _, log := regions(t, good)
	odd := appended(t, good, commitOf(t, 3, 0, one), commitOf(t, 4, 1, two))
	gap := appended(t, good, commitOf(t, 3, 0, one), commitOf(t, 3, 2, two))
	waiting := appended(t, good, commitOf(t, 3, 0, one))
	waiting.Pending = []api.Write{{Sector: 31, Data: filled('w')}}
	cached := waiting
	f, _ := record.Sectors(commitOf(t, 3, 1, two))
	for i, s := range f {
		cached.Pending = append(slices.Clone(cached.Pending), api.Write{Sector: log.From + 2 + i, Data: s})
	}
	for name, x := range map[string]struct {
		d    api.Disk
		want api.Store
	}{
		"no log":                       {good, api.Store{Versions: window.New(), Epoch: 3}},
		"the greatest first version":   {saved(t, blank(t, few), 3, packed(t, greatest)), api.Store{Versions: greatest, Epoch: 3}},
		"the greatest epoch":           {appended(t, saved(t, blank(t, few), math.MaxUint64, none), commitOf(t, math.MaxUint64, 0, one)), api.Store{Versions: v, Epoch: math.MaxUint64, At: 2, Count: 1}},
		"a commit":                     {appended(t, good, commitOf(t, 3, 0, one)), api.Store{Versions: v, Epoch: 3, At: 2, Count: 1}},
		"two":                          {appended(t, good, commitOf(t, 3, 0, one), commitOf(t, 3, 1, two)), api.Store{Versions: w, Epoch: 3, At: 4, Count: 2}},
		"one, and one of another log":  {odd, api.Store{Versions: v, Epoch: 3, At: 2, Count: 1}},
		"one, and one that is too far": {gap, api.Store{Versions: v, Epoch: 3, At: 2, Count: 1}},
		"another log":                  {appended(t, good, commitOf(t, 2, 0, one)), api.Store{Versions: window.New(), Epoch: 3}},
		"a newer snapshot":             {saved(t, odd, 4, packed(t, w)), api.Store{Versions: w, Epoch: 4}},
		"one of an elder log":          {saved(t, appended(t, good, commitOf(t, 4, 0, one)), 4, none), api.Store{Versions: v, Epoch: 4, At: 2, Count: 1}},
		"writes that wait":             {waiting, api.Store{Versions: v, Epoch: 3, At: 2, Count: 1}},
		"a commit that waits":          {cached, api.Store{Versions: w, Epoch: 3, At: 4, Count: 2}},
	} {
		for _, fuse := range []int{-1, 0} {
			x.d.Fuse = fuse
			x.want.Disk = x.d
			if s, why := store.Open(x.d); why != api.OK || !like(s, x.want) {
				t.Errorf("%s: epoch %d, at %d, %d frames, %v, error %d", name, s.Epoch, s.At, s.Count, s.Versions, why)
			}
		}
	}
}

// P4.
func TestNoGoroutineIsLeft(t *testing.T) {
	before := runtime.NumGoroutine()
	s := checked(t, committed(t, formatted(t, few), list(policyIs("p", open)), nil))
	store.Check(s)
	store.Commit(s, make([]api.Change, 17))
	store.Open(s.Disk)
	store.Open(api.Disk{})
	store.Format(s.Disk)
	store.Checkpoint(api.Store{})
	if after := runtime.NumGoroutine(); after > before {
		t.Errorf("%d goroutines, before %d", after, before)
	}
}
