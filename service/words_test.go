package service_test

import (
	"math"
	"math/rand"
	"reflect"
	"slices"
	"strings"
	"testing"

	"lictor/api"
	"lictor/auth"
	"lictor/eval"
	"lictor/fresh"
	"lictor/policy"
	"lictor/sector"
	"lictor/service"
	"lictor/window"
	"lictor/wire"
)

// This file tells chapter 20's words another way, of a service that has versions alone, and holds the package against that, by chance.

// model is a service without a disk.
type model struct {
	versions api.Versions
	open     map[uint64][]api.Change
	last     uint64
}

func newModel() model { return model{versions: window.New(), open: map[uint64][]api.Change{}} }

// context is what a text says, of those that are asked by chance.
func context(t *testing.T, text string) (api.Value, api.Errno) {
	t.Helper()
	switch text {
	case here, there:
		return record(t, text == there), api.OK
	case `{}`:
		return api.Value{Kind: api.KindRecord}, api.OK
	case `{far: }`, ``:
		return api.Value{}, api.ErrSyntax
	case `{far: context.far}`, `[1]`:
		return api.Value{}, api.ErrType
	case `-9223372036854775807 - 2`:
		return api.Value{}, api.ErrOver
	}
	t.Fatalf("%q is none of the contexts", text)
	return api.Value{}, api.OK
}

// contexts are the texts of contexts.
var contexts = []string{here, there, here, there, here, there, `{}`, `{far: }`, ``, `{far: context.far}`, `[1]`, `-9223372036854775807 - 2`}

// answer is what the model answers to a request, and what it is behind that.
func (m model) answer(t *testing.T, a api.Ask) (model, api.Reply) {
	t.Helper()
	open := map[uint64][]api.Change{}
	for n, l := range m.open {
		open[n] = l
	}
	m.open = open
	l, is := open[a.Tx]
	last, _ := window.Last(m.versions)
	switch {
	case a.Kind == api.AskBegin && len(open) == 4:
		return m, why(api.ErrMany)
	case a.Kind == api.AskBegin:
		m.last++
		open[m.last] = nil
		return m, api.Reply{N: m.last}
	case (a.Kind == api.AskChange || a.Kind == api.AskAbort || a.Kind == api.AskCommit) && !is:
		return m, why(api.ErrUnknown)
	case a.Kind == api.AskChange && len(l) == 16:
		return m, why(api.ErrMany)
	case a.Kind == api.AskChange:
		open[a.Tx] = append(slices.Clone(l), a.Change)
		return m, api.Reply{}
	case a.Kind == api.AskAbort:
		delete(open, a.Tx)
		return m, api.Reply{}
	case a.Kind == api.AskCommit:
		delete(open, a.Tx)
		v, why, place := window.Commit(m.versions, l)
		if why != api.OK {
			return m, api.Reply{Why: why, Place: place}
		}
		m.versions = v
		return m, api.Reply{N: last + 1, Place: len(l)}
	case a.Kind == api.AskQuery || a.Kind == api.AskAt:
		return m, m.decide(t, a, last)
	case a.Kind == api.AskRecover:
		m.open = map[uint64][]api.Change{}
		return m, api.Reply{N: last}
	}
	return m, api.Reply{}
}

// decide is what the model decides; its last version is told.
func (m model) decide(t *testing.T, a api.Ask, n uint64) api.Reply {
	t.Helper()
	if a.Kind == api.AskAt {
		n = a.Version
	}
	c, no := context(t, a.Context)
	if no != api.OK {
		return why(no)
	}
	d, no := window.Decide(m.versions, n, api.Request{Principal: a.Principal, Action: a.Action, Resource: a.Resource, Context: c})
	if no != api.OK {
		return why(no)
	}
	return api.Reply{N: n, Decision: d}
}

// maker makes things by chance.
type maker struct{ *rand.Rand }

func newMaker(seed int64) maker { return maker{rand.New(rand.NewSource(seed))} }

// one is one of a list.
func (m maker) one(l ...string) string { return l[m.Intn(len(l))] }

// change is a change by chance: of most it may be that it is done.
func (m maker) change() api.Change {
	switch n := m.Intn(24); {
	case n < 10:
		return policyIs(m.one("open", "near", "p", "q"), m.one(open, near, great, `permit(principal == A::"a", action, resource);`, `forbid(principal, action, resource is A) when { resource.n * principal.n < 0 } unless { context.far };`))
	case n < 13:
		return forget(m.one("open", "near", "p", "q"))
	case n < 19:
		return entityIs(`A::"` + m.one("a", "b", "c") + `" {n: ` + m.one("-1", "3", "30", "9223372036854775807") + `};`)
	case n < 21:
		return drop("A", m.one("a", "b", "c"))
	case n < 22:
		return schemaIs(houseText + m.one("", " entity Odd {};"))
	}
	return []api.Change{policyIs("p", "permit"), policyIs("", open), entityIs(`A::"d" {};`), schemaIs("entity"), policyIs("q", open+strings.Repeat(" ", 1900))}[m.Intn(5)]
}

// tx is the number of a transaction, mostly of one that is open.
func (m maker) tx(s api.Server) uint64 {
	if len(s.Open) > 0 && m.Intn(8) > 0 {
		return s.Open[m.Intn(len(s.Open))].N
	}
	return uint64(m.Intn(int(s.Last) + 2))
}

// ask is a request by chance of a service.
func (m maker) ask(s api.Server) api.Ask {
	switch n := m.Intn(48); {
	case n < 8:
		return begin()
	case n < 22:
		return changeBy(m.tx(s), m.change())
	case n < 30:
		return commit(m.tx(s))
	case n < 31:
		return abort(m.tx(s))
	case n < 43:
		a := query(m.one("a", "b", "c"), m.one("a", "b"), contexts[m.Intn(len(contexts))])
		if m.Intn(12) == 0 {
			a.Action.Id = "none"
		}
		if n < 36 {
			return a
		}
		return at(uint64(max(0, int(last(s))-5+m.Intn(8))), a)
	case n < 46:
		return checkpoint()
	}
	return recovery()
}

// pair is a service, and the model of it.
type pair struct {
	s     api.Server
	m     model
	maybe *model // what the model is, if the commit in which the power went is there
	seen  map[string]int
	whys  map[api.Errno]int
}

// step asks one request of both.
func (p *pair) step(t *testing.T, a api.Ask) {
	t.Helper()
	next, r := asked(t, p.s, a)
	was := p.s
	p.s = next
	p.whys[r.Why]++
	if !was.Up {
		p.down(t, was, a, r)
		return
	}
	m, want := p.m.answer(t, a)
	switch {
	case !next.Up:
		if a.Kind != api.AskCommit && a.Kind != api.AskCheckpoint || !same(r, why(api.ErrPower)) || want.Why != api.OK || !next.Store.Disk.Off {
			t.Fatalf("%v: %v, not %v, and not Up any more", a, r, want)
		}
		p.seen["power"]++
		if a.Kind == api.AskCommit {
			p.maybe = &m
		}
		p.m.open = nil
		p.m.last = m.last
		return
	case want.Why == api.OK && (a.Kind == api.AskCommit && (r.Why == api.ErrFull || r.Why == api.ErrLong) || a.Kind == api.AskCheckpoint && r.Why == api.ErrSize):
		if !same(r, why(r.Why)) || !reflect.DeepEqual(fresh.Store(was.Store), fresh.Store(next.Store)) {
			t.Fatalf("%v: %v, or something is changed", a, r)
		}
		p.seen["room"]++
		m.versions = p.m.versions
	case !same(r, want):
		t.Fatalf("%v: %v, not %v", a, r, want)
	}
	p.m = m
	p.alike(t)
}

// down holds what a service that is not Up answers.
func (p *pair) down(t *testing.T, was api.Server, a api.Ask, r api.Reply) {
	t.Helper()
	if a.Kind != api.AskRecover {
		if !same(r, why(api.ErrPower)) || !like(p.s, was) {
			t.Fatalf("%v: %v, or something is changed", a, r)
		}
		return
	}
	p.seen["recovery"]++
	if p.maybe != nil && likeVersions(p.s.Store.Versions, p.maybe.versions) {
		p.seen["kept"]++
		p.m.versions = p.maybe.versions
	} else if p.maybe != nil {
		p.seen["lost"]++
	}
	p.maybe = nil
	n, _ := window.Last(p.m.versions)
	p.m.open = map[uint64][]api.Change{}
	if !same(r, api.Reply{N: n}) {
		t.Fatalf("%v: %v, not version %d", a, r, n)
	}
	p.alike(t)
}

// alike asks that the service is as the model.
func (p *pair) alike(t *testing.T) {
	t.Helper()
	open := map[uint64][]api.Change{}
	for _, x := range p.s.Open {
		open[x.N] = x.List
	}
	if !p.s.Up || !likeVersions(p.s.Store.Versions, p.m.versions) || len(open) != len(p.m.open) || p.s.Last != p.m.last {
		t.Fatalf("%v, not %v", p.s, p.m)
	}
	for n, l := range p.m.open {
		if was, is := open[n]; !is || !slices.Equal(was, l) {
			t.Fatalf("transaction %d has %v, not %v", n, was, l)
		}
	}
}

// decisions are what the versions that are kept decide, each as bytes of a reply.
func (p *pair) decisions(t *testing.T) map[uint64]string {
	t.Helper()
	out := map[uint64]string{}
	for n := p.s.Store.Versions.First; n <= last(p.s); n++ {
		for _, a := range []api.Ask{query("a", "b", here), query("b", "a", there), query("c", "c", here)} {
			b, _ := wire.WriteAsk(at(n, a))
			_, r := service.Handle(p.s, b)
			out[n] += r
		}
	}
	return out
}

// Promises 20.3, 20.4, 20.5, P6, P7 and P8: requests by chance, with and without crashes, against versions without a disk.
func TestByTheWords(t *testing.T) {
	m := newMaker(20)
	p := &pair{seen: map[string]int{}, whys: map[api.Errno]int{}}
	for run := range 40 {
		p.s, p.m, p.maybe = started(t, []int{16, 96, 150, 1024}[run%4]), newModel(), nil
		decided := map[uint64]string{}
		p.step(t, begin())
		for _, c := range house() {
			p.step(t, changeBy(1, c))
		}
		p.step(t, commit(1))
		for range 200 {
			a := m.ask(p.s)
			// In every third run the power never goes.
			switch {
			case run%3 == 0:
			case p.s.Up && (a.Kind == api.AskCommit || a.Kind == api.AskCheckpoint) && m.Intn(2) == 0:
				p.s, _ = service.Fuse(p.s, m.Intn(8))
			case p.s.Up && m.Intn(40) == 0 || !p.s.Up && m.Intn(4) == 0:
				p.crash(t, m)
			case !p.s.Up && m.Intn(3) == 0:
				a = recovery()
			}
			p.step(t, a)
			if !p.s.Up {
				continue
			}
			for n, b := range p.decisions(t) {
				if was, is := decided[n]; is && was != b {
					t.Fatalf("version %d decides %q, not %q", n, b, was)
				}
				decided[n] = b
			}
		}
	}
	for what, least := range map[string]int{"power": 150, "recovery": 150, "kept": 6, "lost": 50, "room": 50, "crash": 100} {
		if p.seen[what] < least {
			t.Errorf("%s: just %d times", what, p.seen[what])
		}
	}
	for _, e := range []api.Errno{api.OK, api.ErrMany, api.ErrLong, api.ErrSyntax, api.ErrType, api.ErrMissing, api.ErrUnknown, api.ErrOver, api.ErrPower, api.ErrFull, api.ErrSize, api.ErrExpired, api.ErrVersion} {
		if p.whys[e] < 3 {
			t.Errorf("error %d: just %d times", e, p.whys[e])
		}
	}
}

// crash has the power go between requests, or keep some of what waits.
func (p *pair) crash(t *testing.T, m maker) {
	t.Helper()
	p.seen["crash"]++
	s, why := service.Crash(p.s, chosen(len(p.s.Store.Disk.Pending), func(int) bool { return m.Intn(2) == 0 }))
	if why != api.OK || service.Check(s) != api.OK || s.Up || s.Last != p.s.Last {
		t.Fatalf("Crash: error %d", why)
	}
	p.s = s
}

// Promises 20.3 and P6: a commit for which the log has no room is done behind a checkpoint, as by a service without a disk.
func TestRoom(t *testing.T) {
	p := &pair{s: started(t, 32), m: newModel(), seen: map[string]int{}, whys: map[api.Errno]int{}}
	for i := range 40 {
		p.step(t, begin())
		p.step(t, changeBy(p.s.Last, policyIs(string(rune('a'+i%3)), open)))
		p.step(t, commit(p.s.Last))
		if p.whys[api.ErrFull] > 0 {
			p.whys[api.ErrFull] = 0
			p.seen["full"]++
			p.step(t, checkpoint())
			p.step(t, recovery())
		}
	}
	if p.seen["full"] < 3 || last(p.s) != uint64(40-p.seen["full"]) {
		t.Errorf("%d are refused, the last version is %d", p.seen["full"], last(p.s))
	}
}

// Promise 20.6, and P9: policies that come to an error of a query that is answered come to a number that is too great.
func TestNoErrorButOne(t *testing.T) {
	m := newMaker(206)
	errors, answers := 0, 0
	for range 8 {
		s := committed(t, started(t, 1024), house())
		for range 60 {
			var l []api.Change
			for range m.Intn(3) {
				l = append(l, m.change())
			}
			s, _ = opened(t, s, l)
			s, _ = asked(t, s, commit(s.Last))
			for range 4 {
				a := query(m.one("a", "b", "c", "max"), m.one("a", "b", "max"), m.one(here, there))
				next, r := asked(t, s, a)
				if !like(next, s) {
					t.Fatalf("%v changes something", a)
				}
				if r.Why != api.OK {
					continue
				}
				answers++
				state, _ := window.At(s.Store.Versions, r.N)
				for _, id := range r.Decision.Errors {
					errors++
					named, _ := auth.Find(state.Policies, id)
					body, _ := policy.Body(named)
					q := api.Request{Principal: a.Principal, Action: a.Action, Resource: a.Resource, Context: record(t, a.Context == there)}
					if _, why := eval.Holds(body, q, state.Entities); why != api.ErrOver {
						t.Fatalf("policy %q of %v: error %d", id, a, why)
					}
				}
			}
		}
	}
	if errors < 50 || answers < 500 {
		t.Errorf("%d errors of %d queries", errors, answers)
	}
}

// Promise 20.5, and words: bytes of which one bit is another one, and bytes by chance, are answered as what they say.
func TestBytesByChance(t *testing.T) {
	m := newMaker(205)
	s, tx := opened(t, committed(t, started(t, 128), house()), list(policyIs("p", open)))
	var some []string
	for _, a := range []api.Ask{begin(), changeBy(tx, forget("near")), commit(tx), abort(tx), query("a", "b", here), at(1, query("b", "a", there)), checkpoint(), recovery()} {
		b, _ := wire.WriteAsk(a)
		some = append(some, b)
	}
	seen := map[bool]int{}
	for _, b := range some {
		for i := range len(b) {
			for bit := range 8 {
				turned := []byte(b)
				turned[i] ^= 1 << bit
				seen[answered(t, s, string(turned))]++
			}
		}
	}
	for range 1500 {
		one, two := some[m.Intn(len(some))], some[m.Intn(len(some))]
		seen[answered(t, s, one[:m.Intn(len(one)+1)]+two[m.Intn(len(two)+1):])]++
	}
	if seen[true] < 300 || seen[false] < 300 {
		t.Errorf("%v", seen)
	}
}

// answered asks that bytes are answered, ErrForm just if they are no request's; it tells whether they are one's.
func answered(t *testing.T, s api.Server, b string) bool {
	t.Helper()
	next, r := told(t, s, b)
	_, no := wire.ReadAsk(b)
	if no != api.OK && (!same(r, why(no)) || !like(next, s)) || no == api.OK && r.Why == api.ErrForm {
		t.Fatalf("%q: %v, or something is changed", b, r)
	}
	return no == api.OK
}

// spoil writes over all that lists of a value have, wherever they are, and over the room behind them.
func spoil(v reflect.Value) {
	switch v.Kind() {
	case reflect.Struct:
		for i := range v.NumField() {
			spoil(v.Field(i))
		}
	case reflect.Slice:
		v = v.Slice(0, v.Cap())
		for i := range v.Len() {
			spoil(v.Index(i))
			v.Index(i).SetZero()
		}
	}
}

// begins counts where each piece of memory that lists of a value have begins.
func begins(v reflect.Value, seen map[uintptr]int) {
	switch v.Kind() {
	case reflect.Struct:
		for i := range v.NumField() {
			begins(v.Field(i), seen)
		}
	case reflect.Slice:
		if v.Len() > 0 {
			seen[v.Pointer()]++
		}
		for i := range v.Len() {
			begins(v.Index(i), seen)
		}
	}
}

// roomy is a service whose lists have room behind them, in which something stands.
func roomy(s api.Server) api.Server {
	s = fresh.Server(s)
	d, v := &s.Store.Disk, &s.Store.Versions
	d.Sectors = append(d.Sectors, filled('0'))[:len(d.Sectors)]
	d.Pending = append(d.Pending, api.Write{Sector: 1, Data: filled('1')})[:len(d.Pending)]
	v.States = append(v.States, api.State{Policies: make([]api.Named, 1)})[:len(v.States)]
	v.Lists = append(v.Lists, house())[:len(v.Lists)]
	for i, x := range s.Open {
		s.Open[i].List = append(x.List, forget("room"))[:len(x.List)]
	}
	s.Open = append(s.Open, api.Tx{N: 77, List: house()})[:len(s.Open)]
	return s
}

// roomKept tells whether what stands behind the lists of a roomy service still does.
func roomKept(s api.Server) bool {
	d, v := s.Store.Disk, s.Store.Versions
	kept := d.Sectors[:len(d.Sectors)+1][len(d.Sectors)] == filled('0') && d.Pending[:len(d.Pending)+1][len(d.Pending)].Data == filled('1')
	kept = kept && len(v.States[:len(v.States)+1][len(v.States)].Policies) == 1 && len(v.Lists[:len(v.Lists)+1][len(v.Lists)]) == len(house())
	for _, x := range s.Open {
		kept = kept && x.List[:len(x.List)+1][len(x.List)] == forget("room")
	}
	return kept && s.Open[:len(s.Open)+1][len(s.Open)].N == 77
}

// Promise 20.2, P2 and P3: nothing that is handed in is changed or kept, room behind a list is no matter, and answers share no memory.
func TestNewMemory(t *testing.T) {
	up := committed(t, started(t, 128), house(), nil, list(forget("near")))
	up, tx := opened(t, done(t, up, begin()), list(policyIs("p", open), forget("open")))
	up = done(t, up, begin())
	cut, wrong := fresh.Server(up), fresh.Server(up)
	cut.Store.Disk.Fuse = 2
	cut.Store.Disk.Pending = []api.Write{{Sector: 100, Data: filled('w')}}
	wrong.Last = 0
	down, _ := service.Crash(cut, nil)
	down.Store.Disk.Off = true
	empty, _ := service.Crash(up, nil)
	empty.Store.Disk = blank(t, 9)
	calls := map[string]func(s api.Server) (api.Server, string){
		"Crash": func(s api.Server) (api.Server, string) { s, _ = service.Crash(s, []bool{true}); return s, "" },
		"Fuse":  func(s api.Server) (api.Server, string) { s, _ = service.Fuse(s, 5); return s, "" },
		"Start": func(s api.Server) (api.Server, string) { s, _ = service.Start(s.Store.Disk); return s, "" },
		"none":  func(s api.Server) (api.Server, string) { return service.Handle(s, "none") },
	}
	for name, a := range map[string]api.Ask{"begin": begin(), "change": changeBy(tx, forget("near")), "another change": changeBy(tx-1, forget("near")), "commit": commit(tx), "an empty commit": commit(tx - 1), "abort": abort(tx - 1), "query": query("a", "a", here), "at": at(2, query("a", "a", there)), "checkpoint": checkpoint(), "recover": recovery()} {
		b, _ := wire.WriteAsk(a)
		calls[name] = func(s api.Server) (api.Server, string) { return service.Handle(s, b) }
	}
	for name, call := range calls {
		for i, given := range []api.Server{up, cut, wrong, down, empty} {
			s := roomy(given)
			one, first := call(s)
			two, second := call(s)
			want := fresh.Server(one)
			if first != second || !like(one, two) || !like(s, given) || !roomKept(s) {
				t.Fatalf("%s of service %d: another answer, or what was handed in is changed", name, i)
			}
			seen := map[uintptr]int{}
			begins(reflect.ValueOf(s), seen)
			begins(reflect.ValueOf(two), seen)
			for _, n := range seen {
				if n > 1 {
					t.Fatalf("%s of service %d: two lists share memory", name, i)
				}
			}
			spoil(reflect.ValueOf(&one).Elem())
			if !like(s, given) || !roomKept(s) || !like(two, want) {
				t.Fatalf("%s of service %d: an answer shares memory", name, i)
			}
			spoil(reflect.ValueOf(&s).Elem())
			if !like(two, want) {
				t.Fatalf("%s of service %d: what was handed in is kept", name, i)
			}
		}
	}
}

// P1, P2 and 20.5: whatever is handed in.
func TestWhateverIsHandedIn(t *testing.T) {
	m := newMaker(1)
	house := committed(t, started(t, 96), house(), nil).Store
	far := api.Value{Kind: api.KindRecord}
	for range 1 << 16 {
		far = api.Value{Kind: api.KindSet, List: []api.Value{far}}
	}
	disks := []api.Disk{{}, house.Disk, blank(t, 7), blank(t, 8), saved(t, house.Disk, 5, "x")}
	states := []api.State{{}, house.Versions.States[1], {Policies: make([]api.Named, 300)}, {Policies: []api.Named{{Id: strings.Repeat("i", 5000)}}}, {Entities: []api.Entity{{Uid: uid("A", "a"), Attrs: far}}}}
	lists := [][]api.Change{nil, list(policyIs("p", open)), list(forget("near"), forget("none")), make([]api.Change, 16), make([]api.Change, 17), list(api.Change{Kind: 255}), list(policyIs("p", strings.Repeat("x", 1<<16)))}
	seen := map[api.Errno]int{}
	for range 1500 {
		s := api.Server{Store: fresh.Store(house), Up: m.Intn(8) > 0, Last: uint64(m.Intn(6))}
		if m.Intn(3) == 0 {
			s.Store.Disk = fresh.Disk(disks[m.Intn(len(disks))])
		}
		if m.Intn(3) == 0 {
			v := api.Versions{First: []uint64{0, 5, 1 << 63, 1<<63 + 1}[m.Intn(4)]}
			for range m.Intn(6) {
				v.States = append(v.States, states[m.Intn(len(states))])
			}
			v.Lists = make([][]api.Change, max(0, len(v.States)-1))
			s.Store.Versions = v
		}
		for range m.Intn(4) {
			s.Open = append(s.Open, api.Tx{N: uint64(m.Intn(3) + len(s.Open)), List: lists[m.Intn(len(lists))]})
		}
		if !s.Up && m.Intn(2) == 0 {
			s.Store, s.Open = api.Store{Disk: s.Store.Disk}, nil
		}
		s.Store.Disk.Off, s.Store.Disk.Fuse = m.Intn(6) == 0, m.Intn(14)-4
		if m.Intn(20) == 0 {
			s.Store.At, s.Store.Count, s.Last = m.Intn(70), []int{-1, 1024, math.MaxInt}[m.Intn(3)], math.MaxUint64
		}
		a := m.ask(api.Server{Open: s.Open, Last: 4, Store: house})
		b, _ := wire.WriteAsk(a)
		right := service.Check(s)
		seen[right]++
		next, r := told(t, s, b)
		if right != api.OK && (!same(r, why(api.ErrState)) || !like(next, api.Server{})) {
			t.Fatalf("%v: %v", a, r)
		}
		if r.Why != api.OK && (r.N != 0 || !same(r, api.Reply{Why: r.Why, Place: r.Place}) || r.Place != 0 && a.Kind != api.AskCommit) {
			t.Fatalf("%v: %v", a, r)
		}
		crashed, no := service.Crash(s, []bool{true, false, true})
		fused, nor := service.Fuse(s, m.Intn(9)-3)
		for _, x := range []api.Server{crashed, fused} {
			if no != right || nor != right || right == api.OK && service.Check(x) != api.OK || right != api.OK && !like(x, api.Server{}) {
				t.Fatalf("Crash: error %d, Fuse: error %d", no, nor)
			}
		}
		started, no := service.Start(s.Store.Disk)
		if no == api.OK && (service.Check(started) != api.OK || sector.Check(s.Store.Disk) != api.OK) || no != api.OK && !like(started, api.Server{}) {
			t.Fatalf("Start: error %d", no)
		}
	}
	if seen[api.OK] < 400 || seen[api.ErrState] < 400 {
		t.Errorf("%v", seen)
	}
}
