package wire_test

import (
	"math"
	"reflect"
	"runtime"
	"slices"
	"strings"
	"testing"

	"lictor/api"
	"lictor/wire"
)

// uid is an entity's.
func uid(kind, id string) api.Uid { return api.Uid{Type: kind, Id: id} }

// Requests of each kind.

func begin() api.Ask { return api.Ask{Kind: api.AskBegin} }

func changeBy(tx uint64, c api.Change) api.Ask {
	return api.Ask{Kind: api.AskChange, Tx: tx, Change: c}
}

func commit(tx uint64) api.Ask { return api.Ask{Kind: api.AskCommit, Tx: tx} }

func abort(tx uint64) api.Ask { return api.Ask{Kind: api.AskAbort, Tx: tx} }

func query(principal, action, resource api.Uid, context string) api.Ask {
	return api.Ask{Kind: api.AskQuery, Principal: principal, Action: action, Resource: resource, Context: context}
}

func at(version uint64, principal, action, resource api.Uid, context string) api.Ask {
	a := query(principal, action, resource, context)
	a.Kind, a.Version = api.AskAt, version
	return a
}

func checkpoint() api.Ask { return api.Ask{Kind: api.AskCheckpoint} }

func recovery() api.Ask { return api.Ask{Kind: api.AskRecover} }

// changes are one of each kind.
func changes() []api.Change {
	return []api.Change{
		{Kind: api.ChangeSchema, Text: "x"},
		{Kind: api.ChangePolicy, Id: "id", Text: "text"},
		{Kind: api.ChangeForget, Id: "f"},
		{Kind: api.ChangeEntity, Text: "\xff\x00"},
		{Kind: api.ChangeDrop, Uid: uid("User", "b")},
	}
}

// zero are so many zero bytes.
func zero(n int) string { return strings.Repeat("\x00", n) }

// asks are requests, by their bytes.
func asks() map[string]api.Ask {
	long := strings.Repeat("a", 0x201)
	most := strings.Repeat("m", 2048)
	return map[string]api.Ask{
		"\x01": begin(),
		"\x02\x02\x00\x00\x00\x00\x00\x00\x00\x01\x01" + zero(4) + "\x01\x00\x00\x00x" + zero(8):        changeBy(2, changes()[0]),
		"\x02\xff\xff\xff\xff\xff\xff\xff\xff\x01\x02\x02\x00\x00\x00id\x04\x00\x00\x00text" + zero(8):  changeBy(math.MaxUint64, changes()[1]),
		"\x02" + zero(8) + "\x01\x03\x01\x00\x00\x00f" + zero(12):                                       changeBy(0, changes()[2]),
		"\x02\x01\x02\x03\x04\x05\x06\x07\x08\x01\x04" + zero(4) + "\x02\x00\x00\x00\xff\x00" + zero(8): changeBy(0x0807060504030201, changes()[3]),
		"\x02\x01" + zero(7) + "\x01\x05" + zero(8) + "\x04\x00\x00\x00User\x01\x00\x00\x00b":           changeBy(1, changes()[4]),
		"\x02\x01" + zero(7) + "\x01\x03" + zero(16):                                                    changeBy(1, api.Change{Kind: api.ChangeForget}),
		"\x02\x01" + zero(7) + "\x01\x05" + zero(16):                                                    changeBy(1, api.Change{Kind: api.ChangeDrop}),
		"\x02\x01" + zero(7) + "\x01\x01" + zero(4) + "\x00\x08\x00\x00" + most + zero(8):               changeBy(1, api.Change{Kind: api.ChangeSchema, Text: most}),
		"\x03\x02" + zero(7):                   commit(2),
		"\x03" + zero(8):                       commit(0),
		"\x03\xfe\xff\xff\xff\xff\xff\xff\xff": commit(math.MaxUint64 - 1),
		"\x04\x02" + zero(7):                   abort(2),
		"\x04" + zero(7) + "\x80":              abort(1 << 63),
		"\x05\x01\x00\x00\x00A\x02\x00\x00\x00bc\x06\x00\x00\x00Action\x01\x00\x00\x00v\x01\x00\x00\x00D" + zero(4) + "\x02\x00\x00\x00{}": query(uid("A", "bc"), uid("Action", "v"), uid("D", ""), "{}"),
		"\x05" + zero(28): query(uid("", ""), uid("", ""), uid("", ""), ""),
		"\x05" + zero(24) + "\x02\x00\x00\x00\xff\n":        query(uid("", ""), uid("", ""), uid("", ""), "\xff\n"),
		"\x05\x01\x02\x00\x00" + long + zero(24):            query(uid(long, ""), uid("", ""), uid("", ""), ""),
		"\x05" + strings.Repeat("\x00\x08\x00\x00"+most, 7): query(uid(most, most), uid(most, most), uid(most, most), most),
		"\x06\x03" + zero(7) + "\x01\x00\x00\x00A\x01\x00\x00\x00B\x01\x00\x00\x00C\x01\x00\x00\x00D\x01\x00\x00\x00E\x01\x00\x00\x00F\x01\x00\x00\x00G": at(3, uid("A", "B"), uid("C", "D"), uid("E", "F"), "G"),
		"\x06" + zero(8) + zero(28):                   at(0, uid("", ""), uid("", ""), uid("", ""), ""),
		"\x06" + strings.Repeat("\xff", 8) + zero(28): at(math.MaxUint64, uid("", ""), uid("", ""), uid("", ""), ""),
		"\x07": checkpoint(),
		"\x08": recovery(),
	}
}

// decided is a reply that has all that one may have.
func decided() api.Reply {
	return api.Reply{Why: 3, N: 5, Place: 7, Decision: api.Decision{Allow: true, Ids: []string{"p", ""}, Errors: []string{"qq"}}}
}

// decidedBytes are its bytes.
const decidedBytes = "\x03" + "\x05\x00\x00\x00\x00\x00\x00\x00" + "\x07" + "\x01" + "\x02" + "\x01\x00\x00\x00p" + "\x00\x00\x00\x00" + "\x01" + "\x02\x00\x00\x00qq"

// replies are some, by their bytes.
func replies() map[string]api.Reply {
	most := strings.Repeat("m", 2048)
	texts := func(ids, errors []string) api.Reply {
		return api.Reply{Decision: api.Decision{Ids: ids, Errors: errors}}
	}
	return map[string]api.Reply{
		zero(13):     {},
		decidedBytes: decided(),
		"\xff" + strings.Repeat("\xff", 8) + "\xff\x00\x00\x00": {Why: 255, N: math.MaxUint64, Place: 255},
		"\x0f" + zero(12):                                              {Why: api.ErrPower},
		zero(10) + "\x01\x00\x00":                                      {Decision: api.Decision{Allow: true}},
		"\x00\x01\x02\x03\x04\x05\x06\x07\x08" + zero(4):               {N: 0x0807060504030201},
		zero(9) + "\x10" + zero(3):                                     {Place: 16},
		zero(11) + "\x01\x00\x08\x00\x00" + most + "\x00":              texts([]string{most}, nil),
		zero(11) + "\x00\x01\x00\x08\x00\x00" + most:                   texts(nil, []string{most}),
		zero(11) + "\xff" + zero(4*255) + "\x00":                       texts(make([]string, 255), nil),
		zero(12) + "\xff" + strings.Repeat("\x01\x00\x00\x00e", 255):   texts(nil, slices.Repeat([]string{"e"}, 255)),
		zero(11) + "\x02\x02\x00\x00\x00\xff\x00\x01\x00\x00\x00b\x00": texts([]string{"\xff\x00", "b"}, nil),
		zero(11) + "\x01\x01\x00\x00\x00a\x01\x01\x00\x00\x00a":        texts([]string{"a"}, []string{"a"}),
	}
}

// sameReply tells whether two replies are alike, empty lists being as none.
func sameReply(a, b api.Reply) bool {
	x, y := a.Decision, b.Decision
	return a.Why == b.Why && a.N == b.N && a.Place == b.Place && x.Allow == y.Allow && slices.Equal(x.Ids, y.Ids) && slices.Equal(x.Errors, y.Errors)
}

// noAsk asks that bytes are no request's.
func noAsk(t *testing.T, name, s string) {
	t.Helper()
	if a, why := wire.ReadAsk(s); why != api.ErrForm || a != (api.Ask{}) {
		t.Errorf("ReadAsk, %s: %v, error %d", name, a, why)
	}
}

// noReply asks that bytes are no reply's.
func noReply(t *testing.T, name, s string) {
	t.Helper()
	if r, why := wire.ReadReply(s); why != api.ErrForm || !reflect.DeepEqual(r, api.Reply{}) {
		t.Errorf("ReadReply, %s: %v, error %d", name, r, why)
	}
}

// The sections Limits and Errors, as far as they speak of the service's bytes.
func TestLimitsAndErrors(t *testing.T) {
	if api.MaxText != 2048 || api.AskCount != 9 || api.ChangeCount != 6 {
		t.Error("a limit is another one")
	}
	if api.OK != 0 || api.ErrForm != 14 {
		t.Error("an error's number is another one")
	}
}

// Words, promise 19.1, and example 1: a request's bytes.
func TestAsks(t *testing.T) {
	kinds := map[api.AskKind]int{}
	for s, a := range asks() {
		if got, why := wire.WriteAsk(a); why != api.OK || got != s {
			t.Errorf("WriteAsk of %v: %q, error %d, not %q", a, got, why, s)
		}
		if got, why := wire.ReadAsk(s); why != api.OK || got != a {
			t.Errorf("ReadAsk of %q: %v, error %d, not %v", s, got, why, a)
		}
		kinds[a.Kind]++
	}
	if len(kinds) != 8 {
		t.Errorf("%v", kinds)
	}
}

// Words, and promise 19.1: a reply's bytes.
func TestReplies(t *testing.T) {
	for s, r := range replies() {
		if got, why := wire.WriteReply(r); why != api.OK || got != s {
			t.Errorf("WriteReply of %v: %q, error %d, not %q", r, got, why, s)
		}
		if got, why := wire.ReadReply(s); why != api.OK || !sameReply(got, r) {
			t.Errorf("ReadReply of %q: %v, error %d, not %v", s, got, why, r)
		}
	}
	empty := api.Reply{Decision: api.Decision{Ids: []string{}, Errors: []string{}}}
	if s, why := wire.WriteReply(empty); why != api.OK || s != zero(13) {
		t.Errorf("empty lists: %q, error %d", s, why)
	}
}

// Promise 19.1 of WriteAsk, and P2: a request that has a field which its kind has not.
func TestFieldsOfAnotherKind(t *testing.T) {
	fields := map[string]func(a *api.Ask){
		"Tx": func(a *api.Ask) { a.Tx = 1 << 40 }, "Version": func(a *api.Ask) { a.Version = 1 },
		"Change": func(a *api.Ask) { a.Change = changes()[2] }, "Change's Kind": func(a *api.Ask) { a.Change.Kind = api.ChangeForget }, "Change's Id": func(a *api.Ask) { a.Change.Id = "x" }, "Change's Text": func(a *api.Ask) { a.Change.Text = "x" }, "Change's Type": func(a *api.Ask) { a.Change.Uid.Type = "x" }, "Change's id": func(a *api.Ask) { a.Change.Uid.Id = "x" },
		"Principal": func(a *api.Ask) { a.Principal.Type = "x" }, "Principal's Id": func(a *api.Ask) { a.Principal.Id = "x" }, "Action": func(a *api.Ask) { a.Action.Type = "x" }, "Action's Id": func(a *api.Ask) { a.Action.Id = "x" }, "Resource": func(a *api.Ask) { a.Resource.Type = "x" }, "Resource's Id": func(a *api.Ask) { a.Resource.Id = "x" }, "Context": func(a *api.Ask) { a.Context = "x" },
	}
	asked := []string{"Principal", "Principal's Id", "Action", "Action's Id", "Resource", "Resource's Id", "Context"}
	has := map[api.AskKind][]string{
		api.AskBegin: nil, api.AskCommit: {"Tx"}, api.AskAbort: {"Tx"}, api.AskQuery: asked, api.AskAt: append([]string{"Version"}, asked...), api.AskCheckpoint: nil, api.AskRecover: nil,
	}
	for kind, own := range has {
		for name, put := range fields {
			a := api.Ask{Kind: kind}
			put(&a)
			s, why := wire.WriteAsk(a)
			if right := slices.Contains(own, name); right != (why == api.OK) || !right && (why != api.ErrForm || s != "") {
				t.Errorf("kind %d, %s: %q, error %d", kind, name, s, why)
			}
		}
	}
	// Of a change it hangs on its kind, too: that of a ChangeForget is the Id alone.
	for name, put := range fields {
		a := changeBy(2, changes()[2])
		put(&a)
		own := []string{"Tx", "Change", "Change's Kind", "Change's Id"}
		if s, why := wire.WriteAsk(a); slices.Contains(own, name) != (why == api.OK) || why != api.OK && (why != api.ErrForm || s != "") {
			t.Errorf("a change, %s: %q, error %d", name, s, why)
		}
	}
}

// Promise 19.1 of WriteAsk, and P2: requests that are not right, each for another reason, and such as just are.
func TestWhatIsNoAsk(t *testing.T) {
	most, long := strings.Repeat("s", 2048), strings.Repeat("s", 2049)
	none := uid("", "")
	for name, x := range map[string]struct {
		a    api.Ask
		want api.Errno
	}{
		"nothing": {api.Ask{}, api.ErrForm}, "no kind": {api.Ask{Kind: api.AskNone, Tx: 1}, api.ErrForm}, "a kind beyond": {api.Ask{Kind: api.AskCount}, api.ErrForm}, "the greatest kind": {api.Ask{Kind: 255}, api.ErrForm},
		"no change": {changeBy(1, api.Change{}), api.ErrForm}, "a change of a kind beyond": {changeBy(1, api.Change{Kind: api.ChangeCount}), api.ErrForm}, "a change of the greatest kind": {changeBy(1, api.Change{Kind: 255, Id: "x"}), api.ErrForm},
		"a schema with an Id": {changeBy(1, api.Change{Kind: api.ChangeSchema, Id: "x"}), api.ErrForm}, "a policy with a Uid": {changeBy(1, api.Change{Kind: api.ChangePolicy, Uid: uid("x", "")}), api.ErrForm}, "a forgotten one with a text": {changeBy(1, api.Change{Kind: api.ChangeForget, Text: "x"}), api.ErrForm}, "an entity with an Id": {changeBy(1, api.Change{Kind: api.ChangeEntity, Id: "x"}), api.ErrForm}, "a dropped one with a text": {changeBy(1, api.Change{Kind: api.ChangeDrop, Text: "x"}), api.ErrForm},
		"a schema of 2048": {changeBy(1, api.Change{Kind: api.ChangeSchema, Text: most}), api.OK}, "a schema of 2049": {changeBy(1, api.Change{Kind: api.ChangeSchema, Text: long}), api.ErrForm}, "a policy's Id of 2048": {changeBy(1, api.Change{Kind: api.ChangePolicy, Id: most}), api.OK}, "a policy's Id of 2049": {changeBy(1, api.Change{Kind: api.ChangePolicy, Id: long}), api.ErrForm}, "a dropped one of 2048": {changeBy(1, api.Change{Kind: api.ChangeDrop, Uid: uid(most, most)}), api.OK}, "a dropped one of 2049": {changeBy(1, api.Change{Kind: api.ChangeDrop, Uid: uid("", long)}), api.ErrForm},
		"a Principal's Type of 2048": {query(uid(most, ""), none, none, ""), api.OK}, "a Principal's Type of 2049": {query(uid(long, ""), none, none, ""), api.ErrForm}, "a Principal's Id of 2049": {query(uid("", long), none, none, ""), api.ErrForm}, "an Action's Type of 2049": {query(none, uid(long, ""), none, ""), api.ErrForm}, "an Action's Id of 2049": {query(none, uid("", long), none, ""), api.ErrForm}, "a Resource's Type of 2049": {query(none, none, uid(long, ""), ""), api.ErrForm}, "a Resource's Id of 2049": {query(none, none, uid("", long), ""), api.ErrForm}, "a Context of 2048": {query(none, none, none, most), api.OK}, "a Context of 2049": {query(none, none, none, long), api.ErrForm}, "that of a version": {at(1, none, none, none, long), api.ErrForm}, "a Principal of a version": {at(1, uid(long, ""), none, none, ""), api.ErrForm},
		"a Context of 2^20": {query(none, none, none, strings.Repeat("s", 1<<20)), api.ErrForm},
	} {
		if s, why := wire.WriteAsk(x.a); why != x.want || (s == "") != (why != api.OK) {
			t.Errorf("%s: %d bytes, error %d, not %d", name, len(s), why, x.want)
		}
	}
}

// Promise 19.1 of WriteReply, and P2: replies that are not right, each for another reason, and such as just are.
func TestWhatIsNoReply(t *testing.T) {
	most, long := strings.Repeat("s", 2048), strings.Repeat("s", 2049)
	ids := func(l ...string) api.Reply { return api.Reply{Decision: api.Decision{Ids: l}} }
	errors := func(l ...string) api.Reply { return api.Reply{Decision: api.Decision{Errors: l}} }
	for name, x := range map[string]struct {
		r    api.Reply
		want api.Errno
	}{
		"the last error": {api.Reply{Why: api.ErrVersion}, api.OK}, "an error that is none": {api.Reply{Why: 20}, api.OK}, "Why 255": {api.Reply{Why: 255}, api.OK}, "Why 256": {api.Reply{Why: 256}, api.ErrForm}, "Why -1": {api.Reply{Why: -1}, api.ErrForm}, "Why 512": {api.Reply{Why: 512}, api.ErrForm}, "the greatest Why": {api.Reply{Why: math.MaxInt}, api.ErrForm}, "the least Why": {api.Reply{Why: math.MinInt}, api.ErrForm},
		"Place 255": {api.Reply{Place: 255}, api.OK}, "Place 256": {api.Reply{Place: 256}, api.ErrForm}, "Place -1": {api.Reply{Place: -1}, api.ErrForm}, "Place -256": {api.Reply{Place: -256}, api.ErrForm}, "the greatest Place": {api.Reply{Place: math.MaxInt}, api.ErrForm}, "the least Place": {api.Reply{Place: math.MinInt}, api.ErrForm},
		"255 Ids": {ids(make([]string, 255)...), api.OK}, "256 Ids": {ids(make([]string, 256)...), api.ErrForm}, "512 Ids": {ids(make([]string, 512)...), api.ErrForm}, "255 Errors": {errors(make([]string, 255)...), api.OK}, "256 Errors": {errors(make([]string, 256)...), api.ErrForm}, "511 Errors": {errors(make([]string, 511)...), api.ErrForm},
		"an Id of 2048": {ids(most), api.OK}, "an Id of 2049": {ids(long), api.ErrForm}, "the last Id of 2049": {ids("a", most, long), api.ErrForm}, "an Error of 2048": {errors(most), api.OK}, "an Error of 2049": {errors(long), api.ErrForm}, "the last Error of 2049": {errors("a", "b", long), api.ErrForm}, "an Id of 2^20": {ids(strings.Repeat("s", 1<<20)), api.ErrForm},
	} {
		if s, why := wire.WriteReply(x.r); why != x.want || (s == "") != (why != api.OK) {
			t.Errorf("%s: %d bytes, error %d, not %d", name, len(s), why, x.want)
		}
	}
}

// P4.
func TestNoGoroutineIsLeft(t *testing.T) {
	before := runtime.NumGoroutine()
	for s, a := range asks() {
		wire.WriteAsk(a)
		wire.ReadAsk(s)
		wire.ReadReply(s)
	}
	for s, r := range replies() {
		wire.WriteReply(r)
		wire.ReadReply(s)
		wire.ReadAsk(s)
	}
	if after := runtime.NumGoroutine(); after > before {
		t.Errorf("%d goroutines, before %d", after, before)
	}
}
