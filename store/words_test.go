package store_test

import (
	"math"
	"math/rand"
	"reflect"
	"slices"
	"strings"
	"testing"

	"lictor/api"
	"lictor/fresh"
	"lictor/sector"
	"lictor/slots"
	"lictor/store"
	"lictor/value"
	"lictor/window"
)

// This file makes commits, checkpoints and crashes by chance, and holds the package against versions alone.

// maker makes things by chance.
type maker struct{ *rand.Rand }

func newMaker(seed int64) maker { return maker{rand.New(rand.NewSource(seed))} }

// one is one of a list.
func (m maker) one(l ...string) string { return l[m.Intn(len(l))] }

// smallText is a schema.
const smallText = `entity A {n: Long}; action "v" appliesTo {principal: [A], resource: [A], context: {}};`

// change is a change by chance: of most it may be that it is done.
func (m maker) change() api.Change {
	switch n := m.Intn(20); {
	case n < 8:
		return policyIs(m.one("p", "q", "r"), m.one(open, `forbid(principal, action, resource) when { principal.n * 2 > 50 };`, `permit(principal == A::"a", action, resource);`, `forbid(principal, action, resource) when { resource.n < 0 };`))
	case n < 11:
		return forget(m.one("p", "q", "r"))
	case n < 16:
		return entityIs(`A::"` + m.one("a", "b", "c") + `" {n: ` + m.one("-1", "3", "30", "9223372036854775807") + `};`)
	case n < 18:
		return drop("A", m.one("a", "b", "c"))
	case n < 19:
		return schemaIs(smallText + m.one("", " entity Odd {};"))
	}
	return []api.Change{{}, policyIs("p", "permit"), policyIs("", open), entityIs(`A::"d" {};`), schemaIs("entity")}[m.Intn(5)]
}

// changes are some by chance; now and then such as have no room.
func (m maker) changes() []api.Change {
	switch m.Intn(60) {
	case 0, 1:
		return long()
	case 2:
		return list(policyIs("r", open+strings.Repeat(" ", 1500)))
	}
	var l []api.Change
	for range m.Intn(4) {
		l = append(l, m.change())
	}
	return l
}

// begin are changes that make a state in which most changes may be done.
func begin() []api.Change {
	return list(schemaIs(smallText), entityIs(`A::"a" {n: 3};`), entityIs(`A::"b" {n: 30};`), policyIs("p", open))
}

// answers are what versions decide of some requests, each version by itself.
func answers(v api.Versions) map[uint64][]api.Decision {
	out := map[uint64][]api.Decision{}
	for i := range v.States {
		n := v.First + uint64(i)
		for _, id := range []string{"a", "b", "c"} {
			q := api.Request{Principal: api.Uid{Type: "A", Id: id}, Action: api.Uid{Type: "Action", Id: "v"}, Resource: api.Uid{Type: "A", Id: "a"}}
			q.Context, _ = value.Record(nil, nil)
			d, _ := window.Decide(v, n, q)
			out[n] = append(out[n], d)
		}
	}
	return out
}

// Promises 18.2, 18.3, 18.5, 18.6, P6, P7 and P8: commits, checkpoints and crashes by chance; what is answered, and what is opened, against versions without a disk.
func TestByTheWords(t *testing.T) {
	m := newMaker(18)
	seen := map[string]int{}
	whys := map[api.Errno]int{}
	for range 25 {
		s := formatted(t, []int{96, 150, 1024}[m.Intn(3)])
		s = committed(t, s, begin())
		model, _, _ := window.Commit(window.New(), begin())
		decided := answers(model)
		for range 60 {
			s.Disk.Fuse = -1
			if m.Intn(3) == 0 {
				s.Disk.Fuse = m.Intn(20)
			}
			if m.Intn(8) == 0 {
				var why api.Errno
				if s, why = store.Checkpoint(s); why != api.OK && why != api.ErrPower && why != api.ErrSize {
					t.Fatalf("Checkpoint: error %d", why)
				}
				seen["checkpoint"]++
				whys[why]++
			} else {
				model = m.commit(t, &s, model, whys)
			}
			if s.Disk.Off || m.Intn(12) == 0 {
				s, model = m.recovered(t, s, model, seen)
			}
			if !likeVersions(s.Versions, model) || window.Check(model) != api.OK || store.Check(s) != api.OK {
				t.Fatalf("%v, not %v", s.Versions, model)
			}
			for n, l := range answers(s.Versions) {
				if was, is := decided[n]; is && !reflect.DeepEqual(l, was) {
					t.Fatalf("version %d decides %v, not %v", n, l, was)
				}
				decided[n] = l
			}
		}
	}
	for what, least := range map[string]int{"checkpoint": 100, "kept": 10, "lost": 100, "crash": 200} {
		if seen[what] < least {
			t.Errorf("%s: just %d times", what, seen[what])
		}
	}
	for _, why := range []api.Errno{api.OK, api.ErrPower, api.ErrFull, api.ErrLong, api.ErrSize, api.ErrSyntax, api.ErrUnknown} {
		if whys[why] < 3 {
			t.Errorf("error %d: just %d times", why, whys[why])
		}
	}
}

// commit does changes by chance to a store, and to versions without a disk, which it answers.
func (m maker) commit(t *testing.T, s *api.Store, model api.Versions, whys map[api.Errno]int) api.Versions {
	t.Helper()
	l := m.changes()
	want, reason, at := window.Commit(model, l)
	before := *s
	next, n, why, place := store.Commit(*s, l)
	*s = next
	whys[why]++
	switch {
	case reason != api.OK:
		if why != reason || place != at || n != 0 || !like(next, before) {
			t.Fatalf("Commit of %v: %d, error %d at %d, not error %d at %d", l, n, why, place, reason, at)
		}
		return model
	case why == api.OK:
		last, _ := window.Last(want)
		if n != last || place != len(l) || next.Count != before.Count+1 {
			t.Fatalf("Commit of %v: %d, at %d, %d frames", l, n, place, next.Count)
		}
		return want
	case why == api.ErrPower && next.Disk.Off:
		// Whether it is there is told by a recovery.
		return model
	case why == api.ErrFull || why == api.ErrLong:
		if n != 0 || place != 0 || !like(next, before) {
			t.Fatalf("Commit of %v: %d, error %d at %d", l, n, why, place)
		}
		return model
	}
	t.Fatalf("Commit of %v: error %d", l, why)
	return model
}

// recovered is a store behind a crash, and its versions: the model's, and perhaps one more, if the power was gone.
func (m maker) recovered(t *testing.T, s api.Store, model api.Versions, seen map[string]int) (api.Store, api.Versions) {
	t.Helper()
	seen["crash"]++
	often := 1 + m.Intn(3)
	d, why := sector.Crash(s.Disk, chosen(len(s.Disk.Pending), func(int) bool { return m.Intn(often) == 0 }))
	if why != api.OK {
		t.Fatalf("Crash: error %d", why)
	}
	o := opened(t, d)
	if again := opened(t, o.Disk); !like(again, o) {
		t.Fatal("opened twice it is another one")
	}
	if likeVersions(o.Versions, model) {
		seen["lost"]++
		return o, model
	}
	last, _ := window.Last(o.Versions)
	ahead, _ := window.Last(model)
	if !s.Disk.Off || last != ahead+1 {
		t.Fatalf("opened %v, not %v", o.Versions, model)
	}
	want, why, _ := window.Commit(model, o.Versions.Lists[len(o.Versions.Lists)-1])
	if why != api.OK || !likeVersions(o.Versions, want) {
		t.Fatalf("opened %v behind %v", o.Versions, model)
	}
	seen["kept"]++
	return o, want
}

// Promise 18.6: opened twice, or thrice, it is the same, be there writes that wait or not.
func TestOpenTwice(t *testing.T) {
	s := committed(t, formatted(t, 64), begin(), nil, list(forget("p")))
	waiting := fresh.Disk(s.Disk)
	waiting.Pending = []api.Write{{Sector: 63, Data: filled('w')}}
	for _, d := range []api.Disk{s.Disk, waiting, checked(t, s).Disk} {
		one := opened(t, d)
		two := opened(t, one.Disk)
		if !like(one, two) || !like(opened(t, two.Disk), one) || !likeDisk(one.Disk, d) {
			t.Error("opened twice it is another one")
		}
	}
}

// P8: what a version decides hangs neither on later commits, nor on checkpoints, nor on crashes.
func TestKeptVersions(t *testing.T) {
	s := committed(t, formatted(t, 150), begin(), list(entityIs(`A::"b" {n: 9};`)), list(policyIs("q", `forbid(principal == A::"b", action, resource);`)))
	want := answers(s.Versions)[3]
	if len(want) != 3 || !want[0].Allow || want[1].Allow || !slices.Equal(want[1].Ids, []string{"q"}) {
		t.Fatalf("%v", want)
	}
	for i, do := range []func(s api.Store) api.Store{
		func(s api.Store) api.Store { return committed(t, s, list(forget("q"))) },
		func(s api.Store) api.Store { return checked(t, s) },
		func(s api.Store) api.Store { return opened(t, s.Disk) },
		func(s api.Store) api.Store { return committed(t, s, list(drop("A", "b"), forget("p"))) },
		func(s api.Store) api.Store {
			s.Disk.Fuse = 1
			s, _, _, _ = store.Commit(s, list(forget("q")))
			s, _ = store.Checkpoint(s)
			d, _ := sector.Crash(s.Disk, nil)
			return opened(t, d)
		},
		func(s api.Store) api.Store { return checked(t, checked(t, s)) },
	} {
		s = do(s)
		if got := answers(s.Versions)[3]; !reflect.DeepEqual(got, want) {
			t.Errorf("step %d: %v, not %v", i, got, want)
		}
	}
	s = committed(t, s, nil, nil)
	if got, is := answers(s.Versions)[3]; is {
		t.Errorf("it is kept still: %v", got)
	}
}

// spoil writes over all that lists of a value have, wherever they are, and over the room behind them.
func spoil(v reflect.Value) {
	switch v.Kind() {
	case reflect.Struct:
		for i := range v.NumField() {
			spoil(v.Field(i))
		}
	case reflect.Slice:
		v = v.Slice(0, v.Cap())
		for i := range v.Len() {
			spoil(v.Index(i))
			v.Index(i).SetZero()
		}
	}
}

// begins counts where each piece of memory that lists of a value have begins.
func begins(v reflect.Value, seen map[uintptr]int) {
	switch v.Kind() {
	case reflect.Struct:
		for i := range v.NumField() {
			begins(v.Field(i), seen)
		}
	case reflect.Slice:
		if v.Len() > 0 {
			seen[v.Pointer()]++
		}
		for i := range v.Len() {
			begins(v.Index(i), seen)
		}
	}
}

// roomy is a store whose lists have room behind them.
func roomy(s api.Store) api.Store {
	s = fresh.Store(s)
	d, v := &s.Disk, &s.Versions
	d.Sectors = append(d.Sectors, filled('0'))[:len(d.Sectors)]
	d.Pending = append(d.Pending, api.Write{Sector: 1, Data: filled('1')})[:len(d.Pending)]
	v.States = append(v.States, v.States[0])[:len(v.States)]
	v.Lists = append(v.Lists, begin())[:len(v.Lists)]
	return s
}

// Promise 18.4, P2 and P3: nothing that is handed in is changed or kept, room behind a list is no matter, and answers share no memory.
func TestNewMemory(t *testing.T) {
	house := committed(t, formatted(t, 96), begin(), nil, list(forget("p")), list(policyIs("q", open)), nil)
	off, fused, full, wrong := fresh.Store(house), fresh.Store(house), fresh.Store(house), fresh.Store(house)
	off.Disk.Off, fused.Disk.Fuse, full.At, wrong.Epoch = true, 2, 48, 0
	greatest, small := fresh.Store(house), fresh.Store(house)
	greatest.Disk, greatest.Epoch = saved(t, house.Disk, math.MaxUint64, "x"), math.MaxUint64
	small.Disk = blank(t, 7)
	fused.Disk.Pending = []api.Write{{Sector: 95, Data: filled('w')}}
	lists := [][]api.Change{nil, list(policyIs("p", open)), list(forget("none"))}
	calls := map[string]func(s api.Store, l []api.Change) (api.Store, api.Errno){
		"Commit": func(s api.Store, l []api.Change) (api.Store, api.Errno) {
			s, _, why, _ := store.Commit(s, l)
			return s, why
		},
		"Checkpoint": func(s api.Store, l []api.Change) (api.Store, api.Errno) { return store.Checkpoint(s) },
		"Format":     func(s api.Store, l []api.Change) (api.Store, api.Errno) { return store.Format(s.Disk) },
		"Open":       func(s api.Store, l []api.Change) (api.Store, api.Errno) { return store.Open(s.Disk) },
	}
	for name, call := range calls {
		for i, given := range []api.Store{house, off, fused, full, wrong, greatest, small} {
			for _, l := range lists {
				s, changes := roomy(given), append(slices.Clone(l), forget("room"))[:len(l)]
				one, why := call(s, changes)
				two, no := call(s, changes)
				want := fresh.Store(one)
				if why != no || !like(one, two) || !like(s, given) || !slices.Equal(changes, l) {
					t.Fatalf("%s of store %d: another answer, or what was handed in is changed", name, i)
				}
				if sectors := len(s.Disk.Sectors); s.Disk.Sectors[:sectors+1][sectors] != filled('0') || len(s.Versions.Lists[:4][3]) != len(begin()) || changes[:len(l)+1][len(l)] != forget("room") {
					t.Fatalf("%s of store %d: the room behind a list is written", name, i)
				}
				seen := map[uintptr]int{}
				begins(reflect.ValueOf(s), seen)
				begins(reflect.ValueOf(two), seen)
				for _, n := range seen {
					if n > 1 {
						t.Fatalf("%s of store %d: two lists share memory", name, i)
					}
				}
				spoil(reflect.ValueOf(&one).Elem())
				if !like(s, given) || !like(two, want) {
					t.Fatalf("%s of store %d: an answer shares memory", name, i)
				}
				spoil(reflect.ValueOf(&s).Elem())
				clear(changes)
				if !like(two, want) {
					t.Fatalf("%s of store %d: what was handed in is kept", name, i)
				}
			}
		}
	}
}

// P1 and P2: whatever is handed in.
func TestWhateverIsHandedIn(t *testing.T) {
	m := newMaker(1)
	house := committed(t, formatted(t, 96), begin(), nil)
	disks := []api.Disk{{}, house.Disk, checked(t, house).Disk, blank(t, 7), blank(t, 8), blank(t, 1024), {Sectors: make([]string, 20)}, {Sectors: slices.Repeat([]string{filled('H')}, 1025)}}
	far := api.Value{Kind: api.KindRecord}
	for range 1 << 16 {
		far = api.Value{Kind: api.KindSet, List: []api.Value{far}}
	}
	states := []api.State{{}, house.Versions.States[1], {Policies: make([]api.Named, 40)}, {Entities: []api.Entity{{Uid: api.Uid{Type: "A", Id: "a"}, Attrs: far}}}}
	lists := [][]api.Change{nil, begin(), make([]api.Change, 300), long(), list(policyIs("p", strings.Repeat("x", 1<<20)))}
	numbers := []int{math.MinInt, -1, 0, 1, 4, 5, 48, 49, 512, 1024, 1025, math.MaxInt}
	epochs := []uint64{0, 1, 2, 3, math.MaxUint64 - 1, math.MaxUint64}
	for range 300 {
		d := fresh.Disk(disks[m.Intn(len(disks))])
		if i := m.Intn(100); i < len(d.Sectors) {
			d.Sectors[i] = m.one(filled(0), filled('B'), "", house.Disk.Sectors[0], house.Disk.Sectors[1], house.Disk.Sectors[48], house.Disk.Sectors[49])
		}
		for range m.Intn(3) {
			d.Pending = append(d.Pending, api.Write{Sector: m.Intn(12) - 1, Data: m.one(filled(0), filled('H'), house.Disk.Sectors[48])})
		}
		d.Off, d.Fuse = m.Intn(6) == 0, m.Intn(14)-4
		s := api.Store{Disk: d, Epoch: epochs[m.Intn(len(epochs))], At: numbers[m.Intn(len(numbers))], Count: numbers[m.Intn(len(numbers))]}
		for range m.Intn(6) {
			s.Versions.States = append(s.Versions.States, states[m.Intn(len(states))])
		}
		s.Versions.Lists = make([][]api.Change, max(0, len(s.Versions.States)-1))
		for i := range s.Versions.Lists {
			s.Versions.Lists[i] = lists[m.Intn(len(lists))]
		}
		whatever(t, s, lists[m.Intn(len(lists))])
	}
}

// whatever asks each call of a store that may be none.
func whatever(t *testing.T, s api.Store, l []api.Change) {
	t.Helper()
	right := store.Check(s)
	got, n, why, place := store.Commit(s, l)
	if right != api.OK && (why != right || !like(got, api.Store{})) || why != api.OK && n != 0 || place < 0 || place > len(l) {
		t.Fatalf("Commit: %d, error %d at %d", n, why, place)
	}
	if right == api.OK && why != api.OK {
		kept(t, "Commit", got, s, got.Disk)
	}
	if got, why = store.Checkpoint(s); right != api.OK && (why != right || !like(got, api.Store{})) {
		t.Fatalf("Checkpoint: error %d", why)
	}
	if right == api.OK && why != api.OK {
		kept(t, "Checkpoint", got, s, got.Disk)
	}
	none := sector.Check(s.Disk) != api.OK
	if got, why = store.Format(s.Disk); none && !like(got, api.Store{}) || none != (why == api.ErrState) || !none && why != api.OK && !like(got, api.Store{Disk: got.Disk}) {
		t.Fatalf("Format: error %d", why)
	}
	if got, why = store.Open(s.Disk); none && !like(got, api.Store{}) || none != (why == api.ErrState) || !none && !likeDisk(got.Disk, s.Disk) || why == api.OK && store.Check(got) != api.OK {
		t.Fatalf("Open: error %d", why)
	}
	if a, b, _, why := store.Regions(s.At); why == api.OK && slots.Check(api.Disk{Sectors: slices.Repeat([]string{filled('x')}, s.At)}, a, b) != api.OK {
		t.Fatalf("Regions of %d", s.At)
	}
}
