package sector_test

import (
	"math"
	"math/rand"
	"runtime"
	"slices"
	"strings"
	"testing"

	"lictor/api"
	"lictor/sector"
)

// data is what a sector may hold: one byte, again and again.
func data(b byte) string {
	return strings.Repeat(string([]byte{b}), api.SectorSize)
}

// disk is a right one of three sectors, two writes of the first one and one of the last one being pending.
func disk() api.Disk {
	return api.Disk{
		Sectors: []string{data('a'), data('b'), data('c')},
		Pending: []api.Write{{Sector: 0, Data: data('d')}, {Sector: 2, Data: data('e')}, {Sector: 0, Data: data('f')}},
		Fuse:    -1,
	}
}

// with is disk, changed.
func with(change func(d *api.Disk)) api.Disk {
	d := disk()
	change(&d)
	return d
}

// full is disk with as many writes pending as there may be.
func full() api.Disk {
	return with(func(d *api.Disk) {
		d.Pending = slices.Repeat([]api.Write{{Sector: 1, Data: data('p')}}, api.MaxPending)
	})
}

// copied is the same disk in memory of its own.
func copied(d api.Disk) api.Disk {
	d.Sectors = append([]string{}, d.Sectors...)
	d.Pending = append([]api.Write{}, d.Pending...)
	return d
}

// same tells whether two disks are alike; nil and empty lists are.
func same(a, b api.Disk) bool {
	return slices.Equal(a.Sectors, b.Sectors) && slices.Equal(a.Pending, b.Pending) && a.Off == b.Off && a.Fuse == b.Fuse
}

// zero tells whether a disk is the zero one.
func zero(d api.Disk) bool {
	return same(d, api.Disk{})
}

// must is the disk of an answer that is OK.
func must(t *testing.T, d api.Disk, why api.Errno) api.Disk {
	t.Helper()
	if why != api.OK {
		t.Fatalf("error %d", why)
	}
	return d
}

// holds is what a sector holds, of a disk that is right and not Off.
func holds(t *testing.T, d api.Disk, n int) string {
	t.Helper()
	s, why := sector.Read(d, n)
	if why != api.OK {
		t.Fatalf("Read %d: error %d", n, why)
	}
	return s
}

// The sections Limits and Errors, as far as they speak of sector.
func TestLimitsAndErrors(t *testing.T) {
	if api.SectorSize != 64 || api.MaxSectors != 1024 || api.MaxPending != 4096 {
		t.Error("a limit is another one")
	}
	if api.OK != 0 || api.ErrRange != 1 || api.ErrMany != 2 || api.ErrLong != 3 || api.ErrState != 13 || api.ErrPower != 15 {
		t.Error("an error's number is another one")
	}
}

// Promise 2.1 of New.
func TestNewDisk(t *testing.T) {
	for _, n := range []int{1, 2, 3, 8, 64, api.MaxSectors - 1, api.MaxSectors} {
		d, why := sector.New(n)
		if why != api.OK || len(d.Sectors) != n || len(d.Pending) != 0 || d.Off || d.Fuse != -1 {
			t.Fatalf("New(%d): %d sectors, %d pending, %t, %d, error %d", n, len(d.Sectors), len(d.Pending), d.Off, d.Fuse, why)
		}
		for i, s := range d.Sectors {
			if s != data(0) {
				t.Fatalf("New(%d): sector %d is %q", n, i, s)
			}
		}
		if why := sector.Check(d); why != api.OK {
			t.Errorf("New(%d) is not right: error %d", n, why)
		}
	}
	for _, n := range []int{0, -1, api.MaxSectors + 1, math.MinInt, math.MaxInt} {
		if d, why := sector.New(n); !zero(d) || why != api.ErrRange {
			t.Errorf("New(%d): %d sectors, error %d", n, len(d.Sectors), why)
		}
	}
}

// wrong are disks that are not right.
func wrong() map[string]api.Disk {
	pend := func(w api.Write) api.Disk {
		return with(func(d *api.Disk) { d.Pending[1] = w })
	}
	return map[string]api.Disk{
		"nothing":               {},
		"no sectors":            with(func(d *api.Disk) { d.Sectors, d.Pending = nil, nil }),
		"empty sectors":         with(func(d *api.Disk) { d.Sectors, d.Pending = []string{}, []api.Write{} }),
		"too many sectors":      with(func(d *api.Disk) { d.Sectors = slices.Repeat(d.Sectors[:1], api.MaxSectors+1) }),
		"a short first sector":  with(func(d *api.Disk) { d.Sectors[0] = d.Sectors[0][1:] }),
		"a long last sector":    with(func(d *api.Disk) { d.Sectors[2] += "x" }),
		"a sector of nothing":   with(func(d *api.Disk) { d.Sectors[1] = "" }),
		"too many writes":       with(func(d *api.Disk) { d.Pending = append(full().Pending, d.Pending[0]) }),
		"a write of sector -1":  pend(api.Write{Sector: -1, Data: data('x')}),
		"a write of sector 3":   pend(api.Write{Sector: 3, Data: data('x')}),
		"a write at the least":  pend(api.Write{Sector: math.MinInt, Data: data('x')}),
		"a write at the most":   pend(api.Write{Sector: math.MaxInt, Data: data('x')}),
		"a write of nothing":    pend(api.Write{Sector: 1}),
		"a short write":         pend(api.Write{Sector: 1, Data: data('x')[1:]}),
		"a long write":          pend(api.Write{Sector: 1, Data: data('x') + "x"}),
		"off, a long write":     with(func(d *api.Disk) { d.Off = true; d.Pending[2].Data += "x" }),
		"fuse 0, a short write": with(func(d *api.Disk) { d.Fuse = 0; d.Pending[0].Data = "x" }),
	}
}

// right are disks that are right, those at the edges among them.
func right() map[string]api.Disk {
	return map[string]api.Disk{
		"an ordinary one":     disk(),
		"one sector":          {Sectors: []string{data('a')}},
		"nil writes":          with(func(d *api.Disk) { d.Pending = nil }),
		"empty writes":        with(func(d *api.Disk) { d.Pending = []api.Write{} }),
		"as many sectors":     with(func(d *api.Disk) { d.Sectors = slices.Repeat(d.Sectors[:1], api.MaxSectors) }),
		"a write at the last": with(func(d *api.Disk) { d.Pending[0].Sector = 2 }),
		"as many writes":      full(),
		"off":                 with(func(d *api.Disk) { d.Off = true }),
		"fuse 0":              with(func(d *api.Disk) { d.Fuse = 0 }),
		"the least fuse":      with(func(d *api.Disk) { d.Fuse = math.MinInt }),
		"the greatest fuse":   with(func(d *api.Disk) { d.Fuse = math.MaxInt }),
		"any bytes":           with(func(d *api.Disk) { d.Sectors[0] = strings.Repeat("\xff\x00", api.SectorSize/2) }),
	}
}

// Promise 2.1 of Check, P1 and P2: all calls answer ErrState first, of whatever else is wrong, and all else is zero.
func TestDisksThatAreNotRight(t *testing.T) {
	for name, d := range wrong() {
		if why := sector.Check(d); why != api.ErrState {
			t.Errorf("%s: Check: error %d", name, why)
		}
		for _, n := range []int{0, 2, 3, -1, math.MinInt, math.MaxInt} {
			if s, why := sector.Read(d, n); s != "" || why != api.ErrState {
				t.Errorf("%s: Read %d: %q, error %d", name, n, s, why)
			}
			for _, s := range []string{data('x'), ""} {
				if e, why := sector.Put(d, n, s); !zero(e) || why != api.ErrState {
					t.Errorf("%s: Put %d: error %d", name, n, why)
				}
			}
		}
		if e, why := sector.Sync(d); !zero(e) || why != api.ErrState {
			t.Errorf("%s: Sync: error %d", name, why)
		}
		if e, why := sector.Crash(d, []bool{true, true}); !zero(e) || why != api.ErrState {
			t.Errorf("%s: Crash: error %d", name, why)
		}
	}
}

func TestDisksThatAreRight(t *testing.T) {
	for name, d := range right() {
		if why := sector.Check(d); why != api.OK {
			t.Errorf("%s: Check: error %d", name, why)
		}
		e, why := sector.Crash(d, nil)
		if why != api.OK || e.Off || e.Fuse != -1 || len(e.Pending) != 0 || !slices.Equal(e.Sectors, d.Sectors) {
			t.Errorf("%s: Crash: %t, %d, %d pending, error %d", name, e.Off, e.Fuse, len(e.Pending), why)
		}
	}
}

// Promises 2.2 of Read and 2.4: the last write is read, then what is synced; a Read is no work, and does not ask the Fuse.
func TestRead(t *testing.T) {
	for _, fuse := range []int{-1, 0, 5} {
		d := with(func(d *api.Disk) { d.Fuse = fuse })
		for n, want := range []byte{'f', 'b', 'e'} {
			if s := holds(t, d, n); s != data(want) {
				t.Errorf("fuse %d: sector %d holds %q", fuse, n, s)
			}
		}
		for _, n := range []int{-1, 3, 4, math.MinInt, math.MaxInt} {
			if s, why := sector.Read(d, n); s != "" || why != api.ErrRange {
				t.Errorf("Read %d: %q, error %d", n, s, why)
			}
		}
	}
	off := with(func(d *api.Disk) { d.Off = true })
	for _, n := range []int{0, 1, 2, 3, -1} {
		if s, why := sector.Read(off, n); s != "" || why != api.ErrPower {
			t.Errorf("off: Read %d: %q, error %d", n, s, why)
		}
	}
}

// Promises 2.2 of Put and 2.4: the write is behind all others, and no sector is another one yet.
func TestPutIsPendingBehindAllOthers(t *testing.T) {
	for n := range 3 {
		e, why := sector.Put(disk(), n, data('x'))
		want := with(func(d *api.Disk) { d.Pending = append(d.Pending, api.Write{Sector: n, Data: data('x')}) })
		if why != api.OK || !same(e, want) {
			t.Errorf("Put %d: %v, error %d", n, e.Pending, why)
		}
		for m, b := range []byte{'f', 'b', 'e'} {
			if m == n {
				b = 'x'
			}
			if s := holds(t, e, m); s != data(b) {
				t.Errorf("behind Put %d sector %d holds %q", n, m, s)
			}
		}
	}
	last := with(func(d *api.Disk) { d.Pending = full().Pending[1:] })
	if e, why := sector.Put(last, 0, data('x')); why != api.OK || len(e.Pending) != api.MaxPending {
		t.Errorf("the last write that may be: %d pending, error %d", len(e.Pending), why)
	}
}

// Promise 2.2 of Sync: all sectors hold in Sectors what they hold.
func TestSync(t *testing.T) {
	want := api.Disk{Sectors: []string{data('f'), data('b'), data('e')}, Fuse: -1}
	d := disk()
	for range 2 { // a second one finds nothing to do
		e, why := sector.Sync(d)
		if why != api.OK || !same(e, want) {
			t.Errorf("Sync: %v, error %d", e, why)
		}
		d = e
	}
	e, why := sector.Sync(full())
	if why != api.OK || len(e.Pending) != 0 || e.Sectors[1] != data('p') || e.Sectors[0] != data('a') {
		t.Errorf("Sync of as many as may be: %d pending, error %d", len(e.Pending), why)
	}
}

// Promise 2.2 of Crash: just the writes that are kept are done, in order; keep is false beyond its length.
func TestCrash(t *testing.T) {
	for _, x := range []struct {
		keep []bool
		want string
	}{
		{nil, "abc"},
		{[]bool{}, "abc"},
		{[]bool{false, false, false}, "abc"},
		{[]bool{true}, "dbc"},
		{[]bool{false, true}, "abe"},
		{[]bool{false, false, true}, "fbc"},
		{[]bool{true, true}, "dbe"},
		{[]bool{true, false, true}, "fbc"},
		{[]bool{false, true, true}, "fbe"},
		{[]bool{true, true, true}, "fbe"},
		{[]bool{true, false, false, true, true, true}, "dbc"},
		{slices.Repeat([]bool{true}, 2*api.MaxPending), "fbe"},
	} {
		want := api.Disk{Sectors: []string{data(x.want[0]), data(x.want[1]), data(x.want[2])}, Fuse: -1}
		for _, off := range []bool{false, true} {
			for _, fuse := range []int{-1, -9, 0, 7} {
				d := with(func(d *api.Disk) { d.Off, d.Fuse = off, fuse })
				if e, why := sector.Crash(d, x.keep); why != api.OK || !same(e, want) {
					t.Errorf("%v, %t, %d: %v, error %d", x.keep, off, fuse, e, why)
				}
			}
		}
	}
}

// Words: work is done so, the first that applies; promises 2.1 and 2.6: what is refused has the disk as it was.
func TestWhatAPutRefuses(t *testing.T) {
	for _, x := range []struct {
		name string
		d    api.Disk
		n    int
		data string
		want api.Errno
	}{
		{"off", with(func(d *api.Disk) { d.Off = true }), 0, data('x'), api.ErrPower},
		{"off, with a fuse", with(func(d *api.Disk) { d.Off, d.Fuse = true, 4 }), 0, data('x'), api.ErrPower},
		{"off, fuse 0", with(func(d *api.Disk) { d.Off, d.Fuse = true, 0 }), 0, data('x'), api.ErrPower},
		{"off, no sector, short", with(func(d *api.Disk) { d.Off = true }), 3, "", api.ErrPower},
		{"off, full", with(func(d *api.Disk) { *d = full(); d.Off = true }), 0, data('x'), api.ErrPower},
		{"sector 3", disk(), 3, data('x'), api.ErrRange},
		{"sector -1", disk(), -1, data('x'), api.ErrRange},
		{"the least sector", disk(), math.MinInt, data('x'), api.ErrRange},
		{"the greatest sector", disk(), math.MaxInt, data('x'), api.ErrRange},
		{"no sector, short", disk(), 3, "x", api.ErrRange},
		{"no sector, full, fuse 0", with(func(d *api.Disk) { *d = full(); d.Fuse = 0 }), 3, data('x'), api.ErrRange},
		{"nothing", disk(), 0, "", api.ErrLong},
		{"short", disk(), 0, data('x')[1:], api.ErrLong},
		{"long", disk(), 2, data('x') + "x", api.ErrLong},
		{"short, full", full(), 0, "x", api.ErrLong},
		{"long, fuse 0", with(func(d *api.Disk) { d.Fuse = 0 }), 0, data('x') + "x", api.ErrLong},
		{"full", full(), 0, data('x'), api.ErrMany},
		{"full, with a fuse", with(func(d *api.Disk) { *d = full(); d.Fuse = 3 }), 0, data('x'), api.ErrMany},
		{"full, fuse 0", with(func(d *api.Disk) { *d = full(); d.Fuse = 0 }), 0, data('x'), api.ErrMany},
	} {
		if e, why := sector.Put(x.d, x.n, x.data); why != x.want || !same(e, x.d) {
			t.Errorf("%s: %d pending, %t, %d, error %d", x.name, len(e.Pending), e.Off, e.Fuse, why)
		}
	}
	for _, fuse := range []int{-1, 0, 4} {
		d := with(func(d *api.Disk) { d.Off, d.Fuse = true, fuse })
		if e, why := sector.Sync(d); why != api.ErrPower || !same(e, d) {
			t.Errorf("Sync of a disk that is off: %v, error %d", e, why)
		}
	}
}

// Words: at Fuse 0 the power goes; the write is Pending all the same, the sync is not done.
func TestThePowerGoes(t *testing.T) {
	d := with(func(d *api.Disk) { d.Fuse = 0 })
	want := with(func(d *api.Disk) {
		d.Fuse, d.Off = 0, true
		d.Pending = append(d.Pending, api.Write{Sector: 1, Data: data('x')})
	})
	e, why := sector.Put(d, 1, data('x'))
	if why != api.ErrPower || !same(e, want) {
		t.Errorf("Put: %v, error %d", e, why)
	}
	for _, keep := range []bool{false, true} {
		f, why := sector.Crash(e, []bool{false, false, false, keep})
		if s := holds(t, must(t, f, why), 1); (s == data('x')) != keep || f.Fuse != -1 {
			t.Errorf("kept %t: %q, error %d", keep, s, why)
		}
	}
	want = with(func(d *api.Disk) { d.Fuse, d.Off = 0, true })
	if e, why := sector.Sync(d); why != api.ErrPower || !same(e, want) {
		t.Errorf("Sync: %v, error %d", e, why)
	}
}

// Words: a Fuse above 0 is one less behind what is done, and behind nothing else; below 0 it stays.
func TestTheFuse(t *testing.T) {
	d := with(func(d *api.Disk) { d.Fuse = 3 })
	step := func(e api.Disk, why api.Errno, want api.Errno, fuse int) {
		t.Helper()
		if why != want || e.Fuse != fuse || e.Off {
			t.Errorf("fuse %d, not %d; %t, error %d", e.Fuse, fuse, e.Off, why)
		}
		d = e
	}
	put := func(n int, s string) (api.Disk, api.Errno) { return sector.Put(d, n, s) }
	e, why := put(3, data('x'))
	step(e, why, api.ErrRange, 3)
	e, why = put(0, "x")
	step(e, why, api.ErrLong, 3)
	holds(t, d, 0)
	e, why = put(0, data('x'))
	step(e, why, api.OK, 2)
	e, why = sector.Sync(d)
	step(e, why, api.OK, 1)
	e, why = put(0, data('y'))
	step(e, why, api.OK, 0)
	if e, why := put(0, data('z')); why != api.ErrPower || !e.Off || len(e.Pending) != 2 {
		t.Errorf("power: %t, %d pending, error %d", e.Off, len(e.Pending), why)
	}
	for _, fuse := range []int{-1, -2, math.MinInt} {
		d.Fuse = fuse
		e, why = put(1, data('x'))
		step(e, why, api.OK, fuse)
		e, why = sector.Sync(d)
		step(e, why, api.OK, fuse)
	}
}

// Example 1.
func TestWhatIsNotSyncedIsLost(t *testing.T) {
	d, why := sector.New(2)
	d = must(t, d, why)
	d, why = sector.Put(d, 0, data('x'))
	d = must(t, d, why)
	d, why = sector.Sync(d)
	d = must(t, d, why)
	d, why = sector.Put(d, 0, data('y'))
	d = must(t, d, why)
	d, why = sector.Crash(d, []bool{false})
	if s := holds(t, must(t, d, why), 0); s != data('x') {
		t.Errorf("%q", s)
	}
}

// model is what the document says of a disk, kept another way: of each sector what was synced, and what was written since.
type model struct {
	synced []string
	since  [][]string
}

func (m model) last(n int) string {
	if k := len(m.since[n]); k > 0 {
		return m.since[n][k-1]
	}
	return m.synced[n]
}

func (m model) sync() {
	for n := range m.synced {
		m.synced[n] = m.last(n)
		m.since[n] = nil
	}
}

// Promises 2.4 and 2.5, of many puts, syncs and crashes.
func TestReadBackAndSafe(t *testing.T) {
	r := rand.New(rand.NewSource(3))
	for range 60 {
		const size = 5
		d, why := sector.New(size)
		d = must(t, d, why)
		m := model{synced: slices.Clone(d.Sectors), since: make([][]string, size)}
		for step := range 80 {
			switch r.Intn(12) {
			case 0, 1:
				d, why = sector.Sync(d)
				m.sync()
			case 2:
				d = crashed(t, r, d, m)
			default:
				n, s := r.Intn(size), data(byte(step))
				d, why = sector.Put(d, n, s)
				m.since[n] = append(m.since[n], s)
			}
			d = must(t, d, why)
			for n := range size {
				if s := holds(t, d, n); s != m.last(n) {
					t.Fatalf("step %d: sector %d holds %q, not %q", step, n, s[:1], m.last(n)[:1])
				}
			}
		}
	}
}

// crashed is d behind a crash, m what it holds then; a sector holds what was synced, or one of the writes since.
func crashed(t *testing.T, r *rand.Rand, d api.Disk, m model) api.Disk {
	t.Helper()
	keep := make([]bool, r.Intn(len(d.Pending)+3))
	for i := range keep {
		keep[i] = r.Intn(2) == 0
	}
	e, why := sector.Crash(d, keep)
	if why != api.OK || len(e.Pending) != 0 {
		t.Fatalf("Crash: %d pending, error %d", len(e.Pending), why)
	}
	for n, s := range e.Sectors {
		if s != m.synced[n] && !slices.Contains(m.since[n], s) {
			t.Fatalf("sector %d holds %q behind the crash", n, s[:1])
		}
		m.synced[n], m.since[n] = s, nil
	}
	return e
}

// Promise 2.5: all that a crash may keep of some writes, and nothing of it touches what was synced and not put since.
func TestEveryCrash(t *testing.T) {
	d := with(func(d *api.Disk) { d.Pending = append(d.Pending, api.Write{Sector: 2, Data: data('g')}) })
	seen := map[string]bool{}
	for mask := range 1 << len(d.Pending) {
		keep := make([]bool, len(d.Pending))
		for i := range keep {
			keep[i] = mask>>i&1 == 1
		}
		e, why := sector.Crash(d, keep)
		e = must(t, e, why)
		if e.Sectors[1] != data('b') {
			t.Errorf("%v: what was synced is %q", keep, e.Sectors[1])
		}
		seen[e.Sectors[0][:1]+e.Sectors[2][:1]] = true
	}
	for _, s := range []string{"ac", "ae", "ag", "dc", "de", "dg", "fc", "fe", "fg"} {
		if !seen[s] {
			t.Errorf("%s is behind no crash", s)
		}
	}
	if len(seen) != 9 {
		t.Errorf("%d are behind crashes", len(seen))
	}
}

// calls are all calls that answer a disk, of right disks in many states.
func calls() map[string]func(d api.Disk) (api.Disk, api.Errno) {
	return map[string]func(d api.Disk) (api.Disk, api.Errno){
		"put":            func(d api.Disk) (api.Disk, api.Errno) { return sector.Put(d, 0, data('x')) },
		"put of none":    func(d api.Disk) (api.Disk, api.Errno) { return sector.Put(d, 9, data('x')) },
		"put of nothing": func(d api.Disk) (api.Disk, api.Errno) { return sector.Put(d, 0, "") },
		"sync":           sector.Sync,
		"crash of none":  func(d api.Disk) (api.Disk, api.Errno) { return sector.Crash(d, nil) },
		"crash of some":  func(d api.Disk) (api.Disk, api.Errno) { return sector.Crash(d, []bool{true, false, true}) },
	}
}

// roomy is d with room behind its lists, which only who made them may fill.
func roomy(d api.Disk) api.Disk {
	sectors := append(make([]string, 0, len(d.Sectors)+3), d.Sectors...)
	pending := append(make([]api.Write, 0, len(d.Pending)+3), d.Pending...)
	for i := range 3 {
		sectors = append(sectors, data(byte('0'+i)))
		pending = append(pending, api.Write{Sector: i, Data: data('0')})
	}
	d.Sectors, d.Pending = sectors[:len(d.Sectors)], pending[:len(d.Pending)]
	return d
}

// scribble writes over all that a disk's lists have, and over the room behind them.
func scribble(d api.Disk) {
	for i := range d.Sectors[:cap(d.Sectors)] {
		d.Sectors[:cap(d.Sectors)][i] = "scribbled"
	}
	for i := range d.Pending[:cap(d.Pending)] {
		d.Pending[:cap(d.Pending)][i] = api.Write{Sector: -77}
	}
}

// Promise 2.3, and P3: nothing handed in is changed or kept, answers share no memory, and room behind a list is no matter.
func TestNewMemory(t *testing.T) {
	for state, given := range right() {
		for name, call := range calls() {
			d := roomy(given)
			back := copied(api.Disk{Sectors: d.Sectors[:cap(d.Sectors)], Pending: d.Pending[:cap(d.Pending)]})
			first, why := call(d)
			want := copied(first)
			if !slices.Equal(d.Sectors[:cap(d.Sectors)], back.Sectors) || !slices.Equal(d.Pending[:cap(d.Pending)], back.Pending) {
				t.Errorf("%s, %s: what was handed in is changed", state, name)
			}
			second, again := call(d)
			plain, alike := call(given)
			if again != why || alike != why || !same(second, want) || !same(plain, want) {
				t.Errorf("%s, %s: asked again, the answer is another one", state, name)
			}
			scribble(first)
			if !same(d, given) || !same(second, want) {
				t.Errorf("%s, %s: an answer shares memory", state, name)
			}
			scribble(d)
			if !same(second, want) {
				t.Errorf("%s, %s: what was handed in is kept", state, name)
			}
		}
	}
}

func TestNewDisksShareNothing(t *testing.T) {
	a, why := sector.New(4)
	a = must(t, a, why)
	b, why := sector.New(4)
	b = must(t, b, why)
	scribble(a)
	c, why := sector.New(4)
	if c = must(t, c, why); !same(b, c) || b.Sectors[0] != data(0) {
		t.Error("two new disks share memory")
	}
}

func TestKeepIsNotChanged(t *testing.T) {
	keep := []bool{true, false, true, false, true}
	before := slices.Clone(keep)
	e, why := sector.Crash(disk(), keep)
	e = must(t, e, why)
	if !slices.Equal(keep, before) {
		t.Error("keep is changed")
	}
	want := copied(e)
	clear(keep)
	if !same(e, want) {
		t.Error("keep is kept")
	}
}

// P4.
func TestNoGoroutineIsLeft(t *testing.T) {
	before := runtime.NumGoroutine()
	for _, d := range right() {
		for _, call := range calls() {
			call(d)
		}
		sector.Check(d)
		sector.Read(d, 0)
		sector.New(len(d.Sectors))
	}
	if after := runtime.NumGoroutine(); after > before {
		t.Errorf("%d goroutines, before %d", after, before)
	}
}
