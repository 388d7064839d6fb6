package service_test

import (
	"math"
	"reflect"
	"runtime"
	"slices"
	"strings"
	"testing"

	"lictor/api"
	"lictor/fresh"
	"lictor/sector"
	"lictor/service"
	"lictor/slots"
	"lictor/store"
	"lictor/value"
	"lictor/window"
	"lictor/wire"
)

// few is how many sectors the disks of most tests have: slots of 16, a log of 32.
const few = 64

// houseText is the schema of most tests.
const houseText = `entity A {n: Long}; action "v" appliesTo {principal: [A], resource: [A], context: {far: Bool}};`

// Texts of policies.
const (
	open  = `permit(principal, action, resource);`
	near  = `forbid(principal, action, resource) when { context.far };`
	great = `forbid(principal, action, resource) when { principal.n * 2 > 50 };`
)

// Changes of each kind.

func schemaIs(s string) api.Change { return api.Change{Kind: api.ChangeSchema, Text: s} }

func policyIs(id, s string) api.Change { return api.Change{Kind: api.ChangePolicy, Id: id, Text: s} }

func forget(id string) api.Change { return api.Change{Kind: api.ChangeForget, Id: id} }

func entityIs(s string) api.Change { return api.Change{Kind: api.ChangeEntity, Text: s} }

func drop(kind, id string) api.Change { return api.Change{Kind: api.ChangeDrop, Uid: uid(kind, id)} }

func uid(kind, id string) api.Uid { return api.Uid{Type: kind, Id: id} }

// list is any many changes.
func list(l ...api.Change) []api.Change { return l }

// house are changes that make the state of most tests of nothing.
func house() []api.Change {
	return list(schemaIs(houseText), entityIs(`A::"a" {n: 3};`), entityIs(`A::"b" {n: 30};`), entityIs(`A::"max" {n: 9223372036854775807};`), policyIs("open", open), policyIs("near", near))
}

// long is a list whose bytes are more than a frame has, though each text is as long as may be.
func long() []api.Change {
	var l []api.Change
	for i := range 9 {
		l = append(l, policyIs(string(rune('a'+i)), open+strings.Repeat(" ", api.MaxText-len(open))))
	}
	return l
}

// Requests that have but a kind, or a number beside.

func begin() api.Ask { return api.Ask{Kind: api.AskBegin} }

func changeBy(tx uint64, c api.Change) api.Ask {
	return api.Ask{Kind: api.AskChange, Tx: tx, Change: c}
}

func commit(tx uint64) api.Ask { return api.Ask{Kind: api.AskCommit, Tx: tx} }

func abort(tx uint64) api.Ask { return api.Ask{Kind: api.AskAbort, Tx: tx} }

func checkpoint() api.Ask { return api.Ask{Kind: api.AskCheckpoint} }

func recovery() api.Ask { return api.Ask{Kind: api.AskRecover} }

// query asks whether somebody of the house may view somebody.
func query(principal, resource, context string) api.Ask {
	return api.Ask{Kind: api.AskQuery, Principal: uid("A", principal), Action: uid("Action", "v"), Resource: uid("A", resource), Context: context}
}

// at asks that of a version.
func at(n uint64, a api.Ask) api.Ask {
	a.Kind, a.Version = api.AskAt, n
	return a
}

// Contexts of requests.
const (
	here  = `{far: false}`
	there = `{"far": true}`
)

// filled is what a sector may hold: one byte, again and again.
func filled(b byte) string { return strings.Repeat(string([]byte{b}), api.SectorSize) }

// blank is a disk that holds nothing.
func blank(t *testing.T, sectors int) api.Disk {
	t.Helper()
	d, why := sector.New(sectors)
	if why != api.OK {
		t.Fatalf("New: error %d", why)
	}
	return d
}

// started is a service on a disk that held nothing.
func started(t *testing.T, sectors int) api.Server {
	t.Helper()
	s, why := service.Start(blank(t, sectors))
	if why != api.OK {
		t.Fatalf("Start: error %d", why)
	}
	return s
}

// told is what a service answers to bytes; it must be a right reply of what stays a right service.
func told(t *testing.T, s api.Server, request string) (api.Server, api.Reply) {
	t.Helper()
	next, b := service.Handle(s, request)
	r, why := wire.ReadReply(b)
	if why != api.OK {
		t.Fatalf("Handle of %q: %q, which is no reply", request, b)
	}
	if service.Check(s) == api.OK && service.Check(next) != api.OK {
		t.Fatalf("Handle of %q: the service is not right any more: %v", request, next)
	}
	return next, r
}

// asked is what a service answers to a request.
func asked(t *testing.T, s api.Server, a api.Ask) (api.Server, api.Reply) {
	t.Helper()
	b, why := wire.WriteAsk(a)
	if why != api.OK {
		t.Fatalf("WriteAsk of %v: error %d", a, why)
	}
	return told(t, s, b)
}

// done is a service behind requests that are answered OK.
func done(t *testing.T, s api.Server, l ...api.Ask) api.Server {
	t.Helper()
	for _, a := range l {
		next, r := asked(t, s, a)
		if r.Why != api.OK {
			t.Fatalf("%v: error %d at %d", a, r.Why, r.Place)
		}
		s = next
	}
	return s
}

// opened is a service with a transaction of some changes open, and its number.
func opened(t *testing.T, s api.Server, l []api.Change) (api.Server, uint64) {
	t.Helper()
	s = done(t, s, begin())
	for _, c := range l {
		s = done(t, s, changeBy(s.Last, c))
	}
	return s, s.Last
}

// committed is a service with commits behind it.
func committed(t *testing.T, s api.Server, lists ...[]api.Change) api.Server {
	t.Helper()
	for _, l := range lists {
		was := last(s)
		next, tx := opened(t, s, l)
		next, r := asked(t, next, commit(tx))
		if !same(r, api.Reply{N: was + 1, Place: len(l)}) {
			t.Fatalf("commit of %v: %v", l, r)
		}
		s = next
	}
	return s
}

// last is the last version of a service.
func last(s api.Server) uint64 {
	n, _ := window.Last(s.Store.Versions)
	return n
}

// The following tell whether plain things are alike, empty lists being as none.

func like(a, b api.Server) bool { return reflect.DeepEqual(fresh.Server(a), fresh.Server(b)) }

func likeVersions(a, b api.Versions) bool {
	return reflect.DeepEqual(fresh.Versions(a), fresh.Versions(b))
}

func same(a, b api.Reply) bool {
	a.Decision.Ids, a.Decision.Errors = fresh.List(a.Decision.Ids), fresh.List(a.Decision.Errors)
	b.Decision.Ids, b.Decision.Errors = fresh.List(b.Decision.Ids), fresh.List(b.Decision.Errors)
	return reflect.DeepEqual(a, b)
}

// unchanged asks that a request is answered by a reply, and changes nothing.
func unchanged(t *testing.T, name string, s api.Server, a api.Ask, want api.Reply) {
	t.Helper()
	if next, r := asked(t, s, a); !same(r, want) || !like(next, s) {
		t.Errorf("%s: %v, not %v; or something is changed", name, r, want)
	}
}

// why is the reply that tells an error alone.
func why(e api.Errno) api.Reply { return api.Reply{Why: e} }

// waiting is a service that waits for a recovery.
func waiting(d api.Disk, last uint64) api.Server {
	return api.Server{Store: api.Store{Disk: d}, Last: last}
}

// The sections Limits and Errors, as far as they speak of the service.
func TestLimitsAndErrors(t *testing.T) {
	if api.MaxOpen != 4 || api.MaxChanges != 16 || api.Window != 4 || api.MaxText != 2048 || api.AskCount != 9 {
		t.Error("a limit is another one")
	}
	if api.OK != 0 || api.ErrRange != 1 || api.ErrMany != 2 || api.ErrLong != 3 || api.ErrDepth != 4 || api.ErrSyntax != 5 || api.ErrType != 7 || api.ErrMissing != 8 || api.ErrUnknown != 9 || api.ErrTwice != 10 || api.ErrOver != 11 || api.ErrState != 13 || api.ErrForm != 14 || api.ErrPower != 15 || api.ErrFull != 16 || api.ErrSize != 17 || api.ErrExpired != 18 || api.ErrVersion != 19 {
		t.Error("an error's number is another one")
	}
}

// Example 1: begin, commit it empty: N 1; query at 0: as of nothing.
func TestExample(t *testing.T) {
	s := started(t, few)
	s, r := asked(t, s, begin())
	if !same(r, api.Reply{N: 1}) {
		t.Errorf("begin: %v", r)
	}
	s, r = asked(t, s, commit(1))
	if !same(r, api.Reply{N: 1}) {
		t.Errorf("commit: %v", r)
	}
	// Of nothing there is no action that a request may be of.
	unchanged(t, "at 0", s, at(0, query("a", "a", here)), why(api.ErrUnknown))
	s = committed(t, s, house())
	unchanged(t, "at 0", s, at(0, query("a", "a", here)), why(api.ErrUnknown))
	unchanged(t, "at 2", s, at(2, query("a", "a", here)), api.Reply{N: 2, Decision: api.Decision{Allow: true, Ids: []string{"open"}}})
}

// refused asks that each call of a service that is not right is ErrState, and answers nothing beside it.
func refused(t *testing.T, name string, s api.Server) {
	t.Helper()
	if why := service.Check(s); why != api.ErrState {
		t.Errorf("Check, %s: error %d", name, why)
	}
	b, _ := wire.WriteReply(why(api.ErrState))
	for _, request := range []string{"", "\x01", "\x07", "\x08", "\xff", "\x03\x01\x00\x00\x00\x00\x00\x00\x00", "\x06" + strings.Repeat("\x00", 36)} {
		if next, r := service.Handle(s, request); !like(next, api.Server{}) || r != b {
			t.Errorf("Handle of %q, %s: %v, %q", request, name, next, r)
		}
	}
	for _, keep := range [][]bool{nil, {true, false, true}} {
		if next, why := service.Crash(s, keep); why != api.ErrState || !like(next, api.Server{}) {
			t.Errorf("Crash, %s: %v, error %d", name, next, why)
		}
	}
	for _, fuse := range []int{-1, 0, 7} {
		if next, why := service.Fuse(s, fuse); why != api.ErrState || !like(next, api.Server{}) {
			t.Errorf("Fuse, %s: %v, error %d", name, next, why)
		}
	}
}

// Words, promises 20.1 and P2: services that are not right, each for another reason.
func TestWrongServices(t *testing.T) {
	tx := func(n uint64, changes int) api.Tx { return api.Tx{N: n, List: make([]api.Change, changes)} }
	for name, spoil := range map[string]func(s *api.Server){
		"nothing":                       func(s *api.Server) { *s = api.Server{} },
		"nothing, but Up":               func(s *api.Server) { *s = api.Server{Up: true} },
		"no disk":                       func(s *api.Server) { s.Store.Disk = api.Disk{} },
		"a sector too short":            func(s *api.Server) { s.Store.Disk.Sectors[few-1] = "short" },
		"a write to no sector":          func(s *api.Server) { s.Store.Disk.Pending = []api.Write{{Sector: few, Data: filled('x')}} },
		"seven sectors":                 func(s *api.Server) { s.Store.Disk.Sectors, s.Store.At = s.Store.Disk.Sectors[:7], 0 },
		"1025 sectors":                  func(s *api.Server) { s.Store.Disk.Sectors = slices.Repeat([]string{filled('x')}, 1025) },
		"no versions":                   func(s *api.Server) { s.Store.Versions = api.Versions{} },
		"a list too many":               func(s *api.Server) { s.Store.Versions.Lists = append(s.Store.Versions.Lists, nil) },
		"epoch 0":                       func(s *api.Server) { s.Store.Epoch = 0 },
		"behind the log's end":          func(s *api.Server) { s.Store.At = 33 },
		"too many frames":               func(s *api.Server) { s.Store.Count = 1025 },
		"five transactions":             func(s *api.Server) { s.Open = []api.Tx{tx(1, 0), tx(2, 0), tx(3, 0), tx(4, 0), tx(5, 0)} },
		"number 0":                      func(s *api.Server) { s.Open = []api.Tx{tx(0, 0)} },
		"number 0 ahead":                func(s *api.Server) { s.Open = []api.Tx{tx(0, 0), tx(1, 0)} },
		"one above the last":            func(s *api.Server) { s.Open = []api.Tx{tx(10, 0)} },
		"the last one above it":         func(s *api.Server) { s.Open = []api.Tx{tx(2, 0), tx(9, 0), tx(10, 0)} },
		"one, when there were none":     func(s *api.Server) { s.Open, s.Last = []api.Tx{tx(1, 0)}, 0 },
		"the greatest number":           func(s *api.Server) { s.Open = []api.Tx{tx(math.MaxUint64, 0)} },
		"the same number twice":         func(s *api.Server) { s.Open = []api.Tx{tx(3, 0), tx(3, 0)} },
		"the last two alike":            func(s *api.Server) { s.Open = []api.Tx{tx(1, 0), tx(2, 0), tx(9, 0), tx(9, 0)} },
		"numbers that fall":             func(s *api.Server) { s.Open = []api.Tx{tx(4, 0), tx(3, 0)} },
		"seventeen changes":             func(s *api.Server) { s.Open = []api.Tx{tx(1, 17)} },
		"seventeen changes of the last": func(s *api.Server) { s.Open = []api.Tx{tx(1, 16), tx(2, 0), tx(3, 17)} },
		"not Up, with its store":        func(s *api.Server) { s.Up = false },
		"not Up, with versions":         func(s *api.Server) { s.Up, s.Store = false, api.Store{Disk: s.Store.Disk, Versions: window.New()} },
		"not Up, with a first version": func(s *api.Server) {
			s.Up, s.Store = false, api.Store{Disk: s.Store.Disk, Versions: api.Versions{First: 1}}
		},
		"not Up, with a list": func(s *api.Server) {
			s.Up, s.Store = false, api.Store{Disk: s.Store.Disk, Versions: api.Versions{Lists: make([][]api.Change, 1)}}
		},
		"not Up, with an epoch":        func(s *api.Server) { s.Up, s.Store = false, api.Store{Disk: s.Store.Disk, Epoch: 1} },
		"not Up, with a place":         func(s *api.Server) { s.Up, s.Store = false, api.Store{Disk: s.Store.Disk, At: 1} },
		"not Up, with a place below 0": func(s *api.Server) { s.Up, s.Store = false, api.Store{Disk: s.Store.Disk, At: -1} },
		"not Up, with frames":          func(s *api.Server) { s.Up, s.Store = false, api.Store{Disk: s.Store.Disk, Count: 1} },
		"not Up, one open":             func(s *api.Server) { s.Up, s.Store, s.Open = false, api.Store{Disk: s.Store.Disk}, []api.Tx{tx(1, 0)} },
		"not Up, no disk":              func(s *api.Server) { s.Up, s.Store = false, api.Store{} },
		"not Up, seven sectors":        func(s *api.Server) { s.Up, s.Store = false, api.Store{Disk: blank(t, 7)} },
		"not Up, a sector too short":   func(s *api.Server) { d := blank(t, 8); d.Sectors[3] = "x"; s.Up, s.Store = false, api.Store{Disk: d} },
		"not Up, 1025 sectors": func(s *api.Server) {
			s.Up, s.Store = false, api.Store{Disk: api.Disk{Sectors: slices.Repeat([]string{filled('x')}, 1025)}}
		},
		"not Up, a write that is none": func(s *api.Server) {
			d := blank(t, 8)
			d.Pending = make([]api.Write, 1)
			s.Up, s.Store = false, api.Store{Disk: d}
		},
		"not Up, too many writes that are": func(s *api.Server) {
			d := blank(t, 8)
			d.Pending = slices.Repeat([]api.Write{{Data: filled('x')}}, 4097)
			s.Up, s.Store = false, api.Store{Disk: d}
		},
	} {
		for _, off := range []bool{false, true} {
			s := committed(t, started(t, few), list(policyIs("p", open)))
			s.Last = 9
			spoil(&s)
			s.Store.Disk.Off = off
			refused(t, name, s)
		}
	}
}

// Words, and promise 20.1 of Check: services that are right, at the edges.
func TestRightServices(t *testing.T) {
	tx := func(n uint64, changes int) api.Tx { return api.Tx{N: n, List: make([]api.Change, changes)} }
	empty := api.Versions{States: []api.State{}, Lists: [][]api.Change{}}
	for name, edge := range map[string]func(s *api.Server){
		"as it is":                    func(s *api.Server) {},
		"without power":               func(s *api.Server) { s.Store.Disk.Off = true },
		"the least Last":              func(s *api.Server) { s.Last = 0 },
		"the greatest Last":           func(s *api.Server) { s.Last, s.Open = math.MaxUint64, []api.Tx{tx(1, 0), tx(math.MaxUint64, 0)} },
		"four transactions":           func(s *api.Server) { s.Open = []api.Tx{tx(1, 0), tx(2, 1), tx(5, 16), tx(9, 3)} },
		"no list of transactions":     func(s *api.Server) { s.Open = []api.Tx{} },
		"sixteen changes":             func(s *api.Server) { s.Open = []api.Tx{tx(9, 16)} },
		"versions that are not right": func(s *api.Server) { s.Store.Versions.States[0] = api.State{Policies: make([]api.Named, 1)} },
		"not Up":                      func(s *api.Server) { *s = waiting(s.Store.Disk, s.Last) },
		"not Up, without power":       func(s *api.Server) { *s = waiting(s.Store.Disk, 0); s.Store.Disk.Off = true },
		"not Up, eight sectors":       func(s *api.Server) { *s = waiting(blank(t, 8), math.MaxUint64) },
		"not Up, 1024 sectors":        func(s *api.Server) { *s = waiting(blank(t, 1024), 3) },
		"not Up, lists that are empty": func(s *api.Server) {
			s.Up, s.Store, s.Open = false, api.Store{Disk: s.Store.Disk, Versions: empty}, []api.Tx{}
		},
		"not Up, writes that wait": func(s *api.Server) {
			*s = waiting(s.Store.Disk, 0)
			s.Store.Disk.Pending = []api.Write{{Sector: 3, Data: filled('x')}}
		},
	} {
		s := committed(t, started(t, few), list(policyIs("p", open)))
		s.Last = 9
		edge(&s)
		if why := service.Check(s); why != api.OK {
			t.Errorf("%s: error %d", name, why)
		}
	}
}

// saved is a disk with an image in its slots.
func saved(t *testing.T, d api.Disk, epoch uint64, payload string) api.Disk {
	t.Helper()
	a, b, _, _ := store.Regions(len(d.Sectors))
	d, why := slots.Save(d, a, b, api.Image{Epoch: epoch, Payload: payload})
	if why != api.OK {
		t.Fatalf("Save: error %d", why)
	}
	return d
}

// Promise 20.1 of Start: on a disk that held nothing, and on one that holds something; Last is 0 then, and nothing Open.
func TestStart(t *testing.T) {
	for _, n := range []int{8, 9, few, 1024} {
		for _, fuse := range []int{-1, 4, 100} {
			d := blank(t, n)
			d.Fuse = fuse
			want, no := store.Format(d)
			s, why := service.Start(d)
			if no != api.OK || why != api.OK || !like(s, api.Server{Store: want, Up: true}) || service.Check(s) != api.OK {
				t.Errorf("%d sectors: error %d", n, why)
			}
		}
	}
	used := committed(t, started(t, few), house(), nil, list(forget("near")))
	used = done(t, used, begin(), begin())
	waits := fresh.Server(used)
	waits.Store.Disk.Pending = []api.Write{{Sector: few - 1, Data: filled('w')}}
	for name, d := range map[string]api.Disk{"a log": used.Store.Disk, "a snapshot": done(t, used, checkpoint()).Store.Disk, "writes that wait": waits.Store.Disk} {
		want, no := store.Open(d)
		s, why := service.Start(d)
		if no != api.OK || why != api.OK || !like(s, api.Server{Store: want, Up: true}) || last(s) != 3 {
			t.Errorf("%s: version %d, error %d", name, last(s), why)
		}
	}
}

// Promise 20.1 of Start, and P2: store.Open's errors, and store.Format's in the place of ErrUnknown.
func TestWhatStartRefuses(t *testing.T) {
	short, off, dead, cut, full := blank(t, 16), blank(t, 16), blank(t, 7), blank(t, 16), blank(t, 16)
	short.Sectors[3] = "short"
	off.Off, dead.Off = true, true
	cut.Fuse = 2
	full.Pending = slices.Repeat([]api.Write{{Data: filled('w')}}, 4096)
	for name, x := range map[string]struct {
		d    api.Disk
		want api.Errno
	}{
		"nothing": {api.Disk{}, api.ErrState}, "a short sector": {short, api.ErrState}, "1025 sectors": {api.Disk{Sectors: slices.Repeat([]string{filled('x')}, 1025)}, api.ErrState},
		"one sector": {blank(t, 1), api.ErrRange}, "seven sectors": {blank(t, 7), api.ErrRange}, "seven, off": {dead, api.ErrRange}, "off": {off, api.ErrPower},
		"no versions": {saved(t, blank(t, few), 3, "x"), api.ErrForm}, "an image of epoch 0": {saved(t, blank(t, few), 0, ""), api.ErrForm}, "the greatest epoch": {saved(t, blank(t, few), math.MaxUint64, "x"), api.ErrForm},
		"the power goes": {cut, api.ErrPower}, "writes that wait": {full, api.ErrMany},
	} {
		if s, why := service.Start(x.d); why != x.want || !like(s, api.Server{}) {
			t.Errorf("%s: %v, error %d, not %d", name, s, why, x.want)
		}
	}
}

// Words: bytes that are no request, ahead of a service that is not Up.
func TestBytesThatAreNone(t *testing.T) {
	up, _ := opened(t, committed(t, started(t, few), house()), list(forget("open")))
	down, _ := service.Crash(up, nil)
	for _, s := range []api.Server{up, down} {
		for _, request := range []string{"", "\x00", "\x09", "\x01\x00", "\x03", "\x03\x01", "\x08\x00", "\x05" + strings.Repeat("\x00", 27), "\xff\xff", strings.Repeat("\x01", 3000)} {
			if next, r := told(t, s, request); !same(r, why(api.ErrForm)) || !like(next, s) {
				t.Errorf("%q: %v, or something is changed", request, r)
			}
		}
	}
}

// Words: a service that is not Up answers ErrPower to all but a recovery.
func TestNotUp(t *testing.T) {
	up, tx := opened(t, committed(t, started(t, few), house()), list(forget("open")))
	off := waiting(up.Store.Disk, up.Last)
	off.Store.Disk.Off = true
	down, _ := service.Crash(up, nil)
	for _, s := range []api.Server{off, down, waiting(blank(t, 8), 5)} {
		for _, a := range []api.Ask{begin(), changeBy(tx, forget("near")), changeBy(0, forget("")), commit(tx), commit(99), abort(tx), query("a", "a", here), query("", "", "no"), at(0, query("a", "a", here)), at(1<<63, query("", "", "")), checkpoint()} {
			unchanged(t, "not Up", s, a, why(api.ErrPower))
		}
	}
}

// Words of AskBegin: numbers rise, whatever becomes of the transactions; just MaxOpen are open.
func TestBegin(t *testing.T) {
	s := started(t, few)
	for n := uint64(1); n <= 4; n++ {
		next, r := asked(t, s, begin())
		want := fresh.Server(s)
		want.Last, want.Open = n, append(want.Open, api.Tx{N: n})
		if !same(r, api.Reply{N: n}) || !like(next, want) {
			t.Fatalf("begin %d: %v", n, r)
		}
		s = next
	}
	unchanged(t, "a fifth one", s, begin(), why(api.ErrMany))
	s = done(t, s, abort(2), commit(3))
	s, r := asked(t, s, begin())
	if !same(r, api.Reply{N: 5}) {
		t.Errorf("%v", r)
	}
	s, r = asked(t, s, begin())
	if !same(r, api.Reply{N: 6}) || len(s.Open) != 4 {
		t.Errorf("%v", r)
	}
	unchanged(t, "another fifth one", s, begin(), why(api.ErrMany))
}

// Words of AskBegin: ErrOver behind the greatest number, ErrMany ahead of it.
func TestTheGreatestNumber(t *testing.T) {
	s := started(t, few)
	s.Last = math.MaxUint64 - 1
	s, r := asked(t, s, begin())
	if !same(r, api.Reply{N: math.MaxUint64}) || s.Last != math.MaxUint64 {
		t.Errorf("%v", r)
	}
	unchanged(t, "the greatest", s, begin(), why(api.ErrOver))
	s = done(t, s, changeBy(math.MaxUint64, policyIs("p", open)))
	s, r = asked(t, s, commit(math.MaxUint64))
	if !same(r, api.Reply{N: 1, Place: 1}) {
		t.Errorf("%v", r)
	}
	unchanged(t, "none open", s, begin(), why(api.ErrOver))
	s.Open = []api.Tx{{N: 1}, {N: 2}, {N: 3}, {N: math.MaxUint64}}
	unchanged(t, "four open", s, begin(), why(api.ErrMany))
	s.Open = s.Open[:3]
	unchanged(t, "three open", s, begin(), why(api.ErrOver))
}

// Words of AskChange: the change stands behind all that its transaction has; it is not asked whether it may be done.
func TestChange(t *testing.T) {
	s := done(t, started(t, few), begin(), begin(), begin())
	for i := range 16 {
		c := []api.Change{forget(string(rune('a' + i))), schemaIs("none"), drop("", ""), policyIs("", ""), entityIs("\xff")}[i%5]
		want := fresh.Server(s)
		want.Open[1].List = append(want.Open[1].List, c)
		next, r := asked(t, s, changeBy(2, c))
		if !same(r, api.Reply{}) || !like(next, want) {
			t.Fatalf("change %d: %v", i, r)
		}
		s = next
	}
	unchanged(t, "a seventeenth one", s, changeBy(2, forget("x")), why(api.ErrMany))
	for _, tx := range []uint64{0, 4, 5, 1 << 63, math.MaxUint64} {
		unchanged(t, "no such transaction", s, changeBy(tx, forget("x")), why(api.ErrUnknown))
	}
	s = done(t, s, changeBy(1, forget("y")), changeBy(3, forget("z")))
	if s.Open[0].List[0] != forget("y") || s.Open[2].List[0] != forget("z") || len(s.Open[1].List) != 16 {
		t.Errorf("%v", s.Open)
	}
	s = done(t, s, abort(2))
	unchanged(t, "one that is open no more", s, changeBy(2, forget("x")), why(api.ErrUnknown))
}

// Words of AskAbort: the transaction is open no more, and nothing of it is done.
func TestAbort(t *testing.T) {
	s := done(t, committed(t, started(t, few), house()), begin(), changeBy(2, forget("open")), begin(), changeBy(3, forget("near")), begin())
	for _, tx := range []uint64{0, 1, 5, math.MaxUint64} {
		unchanged(t, "no such transaction", s, abort(tx), why(api.ErrUnknown))
	}
	want := fresh.Server(s)
	want.Open = slices.Delete(want.Open, 1, 2)
	next, r := asked(t, s, abort(3))
	if !same(r, api.Reply{}) || !like(next, want) {
		t.Errorf("%v, %v", r, next.Open)
	}
	for _, a := range []api.Ask{abort(3), commit(3), changeBy(3, forget("x"))} {
		unchanged(t, "one that is open no more", next, a, why(api.ErrUnknown))
	}
	next = done(t, next, abort(4), abort(2))
	want.Open = nil
	if !like(next, want) {
		t.Errorf("%v", next.Open)
	}
}

// Words of AskCommit: N is the version, Place how many changes there were; the store is store.Commit's.
func TestCommit(t *testing.T) {
	s := done(t, started(t, few), begin(), begin(), begin())
	for _, c := range house() {
		s = done(t, s, changeBy(2, c))
	}
	s = done(t, s, changeBy(3, forget("near")))
	for i, x := range []struct {
		tx uint64
		l  []api.Change
	}{{2, house()}, {1, nil}, {3, list(forget("near"))}} {
		want := fresh.Server(s)
		want.Open = slices.DeleteFunc(want.Open, func(t api.Tx) bool { return t.N == x.tx })
		want.Store, _, _, _ = store.Commit(s.Store, x.l)
		next, r := asked(t, s, commit(x.tx))
		if !same(r, api.Reply{N: uint64(i) + 1, Place: len(x.l)}) || !like(next, want) {
			t.Fatalf("commit of %d: %v", x.tx, r)
		}
		s = next
		unchanged(t, "committed twice", s, commit(x.tx), why(api.ErrUnknown))
	}
	for _, tx := range []uint64{0, 4, math.MaxUint64} {
		unchanged(t, "no such transaction", s, commit(tx), why(api.ErrUnknown))
	}
}

// Words of AskCommit, and P2: a commit that is refused changes nothing, but that the transaction is open no more; the change that may not be done is told.
func TestWhatACommitRefuses(t *testing.T) {
	s := committed(t, started(t, few), house())
	full := committed(t, s, list(schemaIs(houseText)))
	full.Store.Count = 1024
	end := fresh.Server(s)
	end.Store.Versions.First = 1 << 63
	wrong := fresh.Server(s)
	wrong.Store.Versions.States[1] = api.State{Policies: make([]api.Named, 1)}
	for name, x := range map[string]struct {
		s    api.Server
		l    []api.Change
		want api.Reply
	}{
		"no such policy":              {s, list(forget("near"), forget("none")), api.Reply{Why: api.ErrUnknown, Place: 1}},
		"no text":                     {s, list(forget("near"), forget("open"), policyIs("p", "permit")), api.Reply{Why: api.ErrSyntax, Place: 2}},
		"an Id too long":              {s, list(policyIs(strings.Repeat("i", 65), open)), api.Reply{Why: api.ErrLong}},
		"a policy that does not fit":  {s, list(policyIs("p", open), policyIs("q", `permit(principal, action, resource) when { principal.none };`)), api.Reply{Why: api.ErrMissing, Place: 1}},
		"nothing fits behind it":      {s, list(schemaIs(`entity A {};`)), api.Reply{Why: api.ErrType, Place: 1}},
		"longer than a frame":         {s, long(), why(api.ErrLong)},
		"no room in the log":          {s, long()[:1], why(api.ErrFull)},
		"too many frames":             {full, nil, why(api.ErrFull)},
		"the greatest first version":  {end, nil, why(api.ErrOver)},
		"that, and no such policy":    {end, list(policyIs("p", open), forget("none")), why(api.ErrOver)},
		"versions that are not right": {wrong, list(policyIs("p", open), forget("none")), why(api.ErrState)},
	} {
		s, tx := opened(t, x.s, x.l)
		want := fresh.Server(s)
		want.Open = nil
		next, r := asked(t, s, commit(tx))
		if !same(r, x.want) || !like(next, want) {
			t.Errorf("%s: %v, not %v; or something is changed", name, r, x.want)
		}
		unchanged(t, name, next, commit(tx), why(api.ErrUnknown))
	}
}

// Words of AskQuery and AskAt: what is decided, of the last version, and of those that are kept.
func TestQuery(t *testing.T) {
	s := committed(t, started(t, few), house(), list(policyIs("great", great)), list(forget("near")))
	allowed := func(n uint64, errors ...string) api.Reply {
		return api.Reply{N: n, Decision: api.Decision{Allow: true, Ids: []string{"open"}, Errors: errors}}
	}
	forbidden := func(n uint64, ids ...string) api.Reply {
		return api.Reply{N: n, Decision: api.Decision{Ids: ids}}
	}
	for _, x := range []struct {
		a    api.Ask
		want api.Reply
	}{
		{query("a", "a", here), allowed(3)}, {query("a", "a", there), allowed(3)}, {query("b", "a", here), forbidden(3, "great")}, {query("max", "b", here), allowed(3, "great")},
		{at(3, query("b", "a", here)), forbidden(3, "great")}, {at(3, query("max", "a", there)), allowed(3, "great")},
		{at(2, query("b", "a", there)), forbidden(2, "great", "near")}, {at(2, query("b", "a", here)), forbidden(2, "great")}, {at(2, query("max", "a", there)), api.Reply{N: 2, Decision: api.Decision{Ids: []string{"near"}, Errors: []string{"great"}}}},
		{at(1, query("b", "a", here)), allowed(1)}, {at(1, query("max", "a", there)), forbidden(1, "near")},
		{at(0, query("a", "a", here)), why(api.ErrUnknown)}, {at(4, query("a", "a", here)), why(api.ErrVersion)}, {at(math.MaxUint64, query("a", "a", here)), why(api.ErrVersion)},
		{query("a", "a", `{far: principal.n == 3}`), why(api.ErrType)}, {query("a", "a", `{"far": false,}`), why(api.ErrSyntax)},
	} {
		unchanged(t, "a query", s, x.a, x.want)
	}
	s = committed(t, s, nil)
	unchanged(t, "a version more", s, query("b", "a", here), forbidden(4, "great"))
	unchanged(t, "expired", s, at(0, query("a", "a", here)), why(api.ErrExpired))
	unchanged(t, "kept", s, at(1, query("b", "a", here)), allowed(1))
	// Transactions that are open decide nothing.
	s, _ = opened(t, s, list(forget("open")))
	unchanged(t, "one is open", s, query("a", "a", here), allowed(4))
}

// Words of AskQuery and AskAt: version 0 asked by its number is that version, not the last one.
func TestVersionZero(t *testing.T) {
	s := started(t, few)
	s.Store.Versions.States[0] = committed(t, s, house()).Store.Versions.States[1]
	s = committed(t, s, list(forget("open")))
	unchanged(t, "at 0", s, at(0, query("a", "a", here)), api.Reply{Decision: api.Decision{Allow: true, Ids: []string{"open"}}})
	unchanged(t, "at 1", s, at(1, query("a", "a", here)), api.Reply{N: 1})
	unchanged(t, "the last one", s, query("a", "a", here), api.Reply{N: 1})
}

// deep is a text nested so deep.
func deep(n int) string { return strings.Repeat("[", n-1) + "1" + strings.Repeat("]", n-1) }

// Words of AskQuery and AskAt, and P2: what a query refuses, the first that applies.
func TestWhatAQueryRefuses(t *testing.T) {
	s := committed(t, started(t, few), house(), nil, nil, nil, nil)
	stranger := query("a", "a", here)
	stranger.Action = uid("Action", "none")
	nobody := query("a", "a", here)
	nobody.Principal = api.Uid{}
	long := query(strings.Repeat("i", 65), "a", here)
	wide := `{far: false` + strings.Repeat(", far: false", 16) + `}`
	for name, x := range map[string]struct {
		a    api.Ask
		want api.Errno
	}{
		"no text": {query("a", "a", ""), api.ErrSyntax}, "a bare word": {query("a", "a", "far"), api.ErrSyntax}, "two records": {query("a", "a", here+here), api.ErrSyntax}, "no UTF-8": {query("a", "a", "{far: \"\xff\"}"), api.ErrUtf}, "too deep": {query("a", "a", "{far: "+deep(17)+"}"), api.ErrDepth}, "a name twice": {query("a", "a", `{far: true, far: true}`), api.ErrSyntax}, "too many parts": {query("a", "a", wide), api.ErrSyntax}, "a string too long": {query("a", "a", `{far: "`+strings.Repeat("s", 257)+`"}`), api.ErrLong}, "too many nodes": {query("a", "a", "["+strings.Repeat("[1, 2, 3, 4, 5, 6, 7, 8, 9], ", 13)+"1]"), api.ErrMany},
		"no constant": {query("a", "a", "{far: context.far}"), api.ErrType}, "a variable": {query("a", "a", "context"), api.ErrType}, "a number too great": {query("a", "a", "{far: -9223372036854775807 - 2}"), api.ErrOver}, "a value too deep": {query("a", "a", "{far: "+deep(8)+"}"), api.ErrDepth}, "a value just deep enough": {query("a", "a", "{far: "+deep(7)+"}"), api.ErrType},
		"no record": {query("a", "a", "true"), api.ErrType}, "a set": {query("a", "a", "[]"), api.ErrType}, "an entity": {query("a", "a", `A::"a"`), api.ErrType},
		"no action": {stranger, api.ErrUnknown}, "nobody": {nobody, api.ErrSyntax}, "an id too long": {long, api.ErrLong}, "somebody who is not there": {query("none", "a", here), api.ErrMissing}, "a resource that is not": {query("a", "none", here), api.ErrMissing}, "no far": {query("a", "a", "{}"), api.ErrType}, "one more": {query("a", "a", `{far: true, near: true}`), api.ErrType}, "a far that is no bool": {query("a", "a", `{far: 1}`), api.ErrType},
		"a version to come": {at(6, query("a", "a", here)), api.ErrVersion}, "one that expired": {at(1, query("a", "a", here)), api.ErrExpired},
		// One ahead of the other.
		"no text, no version": {at(6, query("a", "a", "x")), api.ErrSyntax}, "no text, an expired one": {at(0, query("a", "a", "{")), api.ErrSyntax}, "no constant, no version": {at(6, query("a", "a", "{far: context}")), api.ErrType}, "too great, no version": {at(6, query("a", "a", "-9223372036854775807 - 2")), api.ErrOver}, "no record, an expired one": {at(1, query("a", "a", "1")), api.ErrType}, "no version, no action": {at(9, stranger), api.ErrVersion}, "expired, nobody": {at(0, nobody), api.ErrExpired}, "no text, nobody": {query("", "", "("), api.ErrSyntax}, "no record, no action": {api.Ask{Kind: api.AskQuery, Context: "1"}, api.ErrType},
	} {
		unchanged(t, name, s, x.a, why(x.want))
	}
	wrong := fresh.Server(s)
	wrong.Store.Versions.States[3].Policies[0].Id = ""
	unchanged(t, "a last state that is not right", wrong, query("a", "a", here), why(api.ErrLong))
	unchanged(t, "another state", wrong, at(4, query("a", "a", here)), api.Reply{N: 4, Decision: api.Decision{Allow: true, Ids: []string{"open"}}})
}

// Words of AskQuery: contexts are constants of all kinds, their names in any order.
func TestContexts(t *testing.T) {
	s := committed(t, started(t, few), list(
		schemaIs(`entity A {}; action "v" appliesTo {principal: [A], resource: [A], context: {n: Long, s: String, l: Set<Long>, r: {u: A}}};`),
		entityIs(`A::"a" {};`), policyIs("p", `permit(principal, action, resource) when { context.n == 0 - 9223372036854775807 - 1 && context.s == "x" && context.l == [1, 2] && context.r.u == principal };`)))
	for context, want := range map[string]api.Reply{
		`{r: {u: A::"a"}, l: [2, 1, 2], s: "x", "n": -9223372036854775807 - 1}`: {N: 1, Decision: api.Decision{Allow: true, Ids: []string{"p"}}},
		`{n: 4 - 2, s: "", l: [], r: {u: A::"a"}} // and so on`:                 {N: 1},
		`{n: 0, s: "x", l: [], r: {u: A::"b"}}`:                                 why(api.ErrMissing),
		`{n: 0, s: "x", l: ["a"], r: {u: A::"a"}}`:                              why(api.ErrType),
	} {
		unchanged(t, context, s, query("a", "a", context), want)
	}
}

// Words of AskCheckpoint: the store is store.Checkpoint's; transactions stay open.
func TestCheckpoint(t *testing.T) {
	s := done(t, committed(t, started(t, few), list(policyIs("p", open)), nil), begin(), changeBy(3, forget("p")))
	for range 3 {
		want := fresh.Server(s)
		want.Store, _ = store.Checkpoint(s.Store)
		next, r := asked(t, s, checkpoint())
		if !same(r, api.Reply{}) || !like(next, want) || next.Store.Epoch != s.Store.Epoch+1 {
			t.Fatalf("%v", r)
		}
		s = next
	}
	if s, r := asked(t, s, commit(3)); !same(r, api.Reply{N: 3, Place: 1}) || len(s.Open) != 0 {
		t.Errorf("%v", r)
	}
}

// Words of AskCheckpoint, and P2: what it refuses changes nothing.
func TestWhatACheckpointRefuses(t *testing.T) {
	s := committed(t, started(t, 256), long()[:2])
	small, _ := opened(t, committed(t, started(t, few), list(policyIs("p", open))), list(forget("p")))
	last, odd, behind := fresh.Server(small), fresh.Server(small), fresh.Server(small)
	last.Store.Epoch = math.MaxUint64
	odd.Store.Versions.Lists[0] = list(policyIs("p", strings.Repeat(" ", 2049)))
	behind.Store.Epoch, behind.Store.Disk = 1, saved(t, behind.Store.Disk, 5, "x")
	for name, x := range map[string]struct {
		s    api.Server
		want api.Errno
	}{
		"too great": {s, api.ErrSize}, "the greatest epoch": {last, api.ErrOver}, "a text too long": {odd, api.ErrLong}, "an epoch too low": {behind, api.ErrRange},
	} {
		unchanged(t, name, x.s, checkpoint(), why(x.want))
	}
}

// Words of AskRecover: of one that is Up, of one that waits; what was open is no more.
func TestRecover(t *testing.T) {
	s := committed(t, started(t, few), house(), list(forget("near")))
	s, tx := opened(t, s, list(forget("open")))
	off, crashed := waiting(s.Store.Disk, s.Last), waiting(s.Store.Disk, s.Last)
	off.Store.Disk.Off, off.Store.Disk.Fuse = true, 0
	fused := fresh.Server(s)
	fused.Store.Disk.Fuse = 0
	for name, x := range map[string]struct {
		s    api.Server
		fuse int
	}{"Up": {s, -1}, "off": {off, -1}, "crashed": {crashed, -1}, "a fuse": {fused, 0}} {
		want, no := store.Open(s.Store.Disk)
		want.Disk.Fuse = x.fuse
		next, r := asked(t, x.s, recovery())
		if no != api.OK || !same(r, api.Reply{N: 2}) || !like(next, api.Server{Store: want, Up: true, Last: tx}) {
			t.Errorf("%s: %v", name, r)
		}
		unchanged(t, name, next, commit(tx), why(api.ErrUnknown))
		next, r = asked(t, next, begin())
		if !same(r, api.Reply{N: tx + 1}) {
			t.Errorf("%s: begin: %v", name, r)
		}
	}
}

// Words of AskRecover: a disk that is off is crashed, and nothing is kept of what waits; of one that is not, what waits is read.
func TestWhatARecoveryKeeps(t *testing.T) {
	s := committed(t, started(t, few), list(policyIs("p", open)))
	s, tx := opened(t, s, list(forget("p")))
	s, _ = service.Fuse(s, 3)
	s, r := asked(t, s, commit(tx))
	// The power goes in the last sync: the pieces last, the head waits.
	if !same(r, why(api.ErrPower)) || s.Up || !s.Store.Disk.Off || len(s.Store.Disk.Pending) != 1 {
		t.Fatalf("%v, %d writes wait", r, len(s.Store.Disk.Pending))
	}
	lost, r := asked(t, s, recovery())
	if !same(r, api.Reply{N: 1}) || len(lost.Store.Disk.Pending) != 0 || lost.Store.Disk.Off || lost.Store.Disk.Fuse != -1 {
		t.Errorf("off: %v", r)
	}
	on := fresh.Server(s)
	on.Store.Disk.Off = false
	kept, r := asked(t, on, recovery())
	if !same(r, api.Reply{N: 2}) || len(kept.Store.Disk.Pending) != 1 || kept.Store.Disk.Fuse != 0 {
		t.Errorf("not off: %v", r)
	}
	crashed, _ := service.Crash(s, []bool{true})
	if crashed, r = asked(t, crashed, recovery()); !same(r, api.Reply{N: 2}) || len(crashed.Store.Disk.Pending) != 0 {
		t.Errorf("crashed, all kept: %v", r)
	}
}

// Words of AskRecover, and P2: store.Open's errors; the service is not Up then, and has nothing but its disk.
func TestWhatARecoveryRefuses(t *testing.T) {
	up, _ := opened(t, committed(t, started(t, few), house()), list(forget("open")))
	for name, x := range map[string]struct {
		d    api.Disk
		want api.Errno
	}{
		"no image": {blank(t, few), api.ErrUnknown}, "no versions": {saved(t, blank(t, few), 3, "x"), api.ErrForm}, "an image of epoch 0": {saved(t, blank(t, few), 0, ""), api.ErrForm},
	} {
		for _, off := range []bool{false, true} {
			for _, on := range []bool{false, true} {
				s := fresh.Server(up)
				x.d.Pending, x.d.Off, x.d.Fuse = []api.Write{{Sector: few - 1, Data: filled('w')}}, off, 3
				s.Store.Disk = x.d
				if !on {
					s = waiting(x.d, up.Last)
				}
				want := waiting(x.d, up.Last)
				if off {
					want.Store.Disk, _ = sector.Crash(x.d, nil)
				}
				if next, r := asked(t, s, recovery()); !same(r, why(x.want)) || !like(next, want) {
					t.Errorf("%s, off %t, Up %t: %v", name, off, on, r)
				}
			}
		}
	}
}

// Words: behind a request in which the power goes, or went, the service waits for a recovery.
func TestOffBehindARequest(t *testing.T) {
	s, tx := opened(t, committed(t, started(t, few), house()), list(forget("near")))
	s.Store.Disk.Off = true
	want := waiting(s.Store.Disk, s.Last)
	open := api.Reply{N: 1, Decision: api.Decision{Allow: true, Ids: []string{"open"}}}
	for _, x := range []struct {
		a    api.Ask
		want api.Reply
	}{
		{changeBy(tx, forget("x")), api.Reply{}}, {changeBy(9, forget("x")), why(api.ErrUnknown)}, {commit(tx), why(api.ErrPower)}, {commit(9), why(api.ErrUnknown)}, {abort(tx), api.Reply{}}, {query("a", "a", here), open}, {at(1, query("a", "a", here)), open}, {checkpoint(), why(api.ErrPower)},
	} {
		if next, r := asked(t, s, x.a); !same(r, x.want) || !like(next, want) {
			t.Errorf("%v: %v, not %v; %v", x.a, r, x.want, next.Open)
		}
	}
	if next, r := told(t, s, "none"); !same(r, why(api.ErrForm)) || !like(next, want) {
		t.Errorf("bytes that are none: %v", r)
	}
	begun := want
	begun.Last++
	if next, r := asked(t, s, begin()); !same(r, api.Reply{N: tx + 1}) || !like(next, begun) {
		t.Errorf("begin: %v", r)
	}
	if next, r := asked(t, s, recovery()); !same(r, api.Reply{N: 1}) || !next.Up || next.Store.Disk.Off || len(next.Open) != 0 {
		t.Errorf("recovery: %v", r)
	}
}

// Promise 20.1 of Crash: the disk is sector.Crash's, and the service waits, be it Up or not.
func TestCrash(t *testing.T) {
	s, _ := opened(t, committed(t, started(t, few), house()), list(forget("open")))
	s.Store.Disk.Pending = []api.Write{{Sector: 60, Data: filled('a')}, {Sector: 61, Data: filled('b')}, {Sector: 60, Data: filled('c')}}
	s.Store.Disk.Fuse = 7
	for _, up := range []bool{false, true} {
		for _, off := range []bool{false, true} {
			for _, keep := range [][]bool{nil, {}, {true}, {true, true, true}, {false, true, true, true}, {false, false, false}} {
				given := fresh.Server(s)
				given.Store.Disk.Off = off
				if !up {
					given = waiting(given.Store.Disk, s.Last)
				}
				d, _ := sector.Crash(given.Store.Disk, keep)
				next, why := service.Crash(given, keep)
				if why != api.OK || !like(next, waiting(d, s.Last)) || service.Check(next) != api.OK {
					t.Errorf("%v: %v, error %d", keep, next.Store.Disk.Pending, why)
				}
			}
		}
	}
}

// Promise 20.1 of Fuse: just the disk's Fuse is another one.
func TestFuse(t *testing.T) {
	s, _ := opened(t, committed(t, started(t, few), house()), list(forget("open")))
	off := waiting(s.Store.Disk, 3)
	off.Store.Disk.Off = true
	for _, given := range []api.Server{s, off} {
		for _, fuse := range []int{math.MinInt, -1, 0, 1, 1000, math.MaxInt} {
			want := fresh.Server(given)
			want.Store.Disk.Fuse = fuse
			if next, why := service.Fuse(given, fuse); why != api.OK || !like(next, want) {
				t.Errorf("%d: %d, error %d", fuse, next.Store.Disk.Fuse, why)
			}
		}
	}
}

// P4.
func TestNoGoroutineIsLeft(t *testing.T) {
	before := runtime.NumGoroutine()
	s := done(t, committed(t, started(t, few), house(), nil), query("a", "a", here))
	s, _ = service.Fuse(s, 0)
	s, _ = asked(t, s, checkpoint())
	s, _ = service.Crash(s, []bool{true})
	service.Check(s)
	service.Handle(s, "")
	service.Handle(api.Server{}, "\x01")
	service.Start(api.Disk{})
	if after := runtime.NumGoroutine(); after > before {
		t.Errorf("%d goroutines, before %d", after, before)
	}
}

// record is a context as a value.
func record(t *testing.T, far bool) api.Value {
	t.Helper()
	r, why := value.Record([]string{"far"}, []api.Value{{Kind: api.KindBool, B: far}})
	if why != api.OK {
		t.Fatalf("Record: error %d", why)
	}
	return r
}
