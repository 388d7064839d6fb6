package window_test

import (
	"math"
	"reflect"
	"runtime"
	"slices"
	"strings"
	"testing"

	"lictor/api"
	"lictor/auth"
	"lictor/change"
	"lictor/conform"
	"lictor/fresh"
	"lictor/value"
	"lictor/window"
)

// houseText is the schema of most tests.
const houseText = `entity User in [Group] {age: Long, boss: User};
	entity Group in [Group] {};
	entity Doc {owner: User};
	action "view" appliesTo {principal: [User], resource: [Doc], context: {far: Bool}};`

// Texts of policies that fit.
const (
	open   = `permit(principal, action, resource);`
	owners = `permit(principal, action == Action::"view", resource) when { resource.owner == principal };`
	near   = `forbid(principal, action, resource) when { context.far };`
	old    = `permit(principal, action, resource) when { principal.age + 1 > 9 };`
)

// Changes of each kind.

func schemaIs(s string) api.Change { return api.Change{Kind: api.ChangeSchema, Text: s} }

func policyIs(id, s string) api.Change { return api.Change{Kind: api.ChangePolicy, Id: id, Text: s} }

func forget(id string) api.Change { return api.Change{Kind: api.ChangeForget, Id: id} }

func entityIs(s string) api.Change { return api.Change{Kind: api.ChangeEntity, Text: s} }

func drop(kind, id string) api.Change { return api.Change{Kind: api.ChangeDrop, Uid: uid(kind, id)} }

func uid(kind, id string) api.Uid { return api.Uid{Type: kind, Id: id} }

// list is any many changes.
func list(l ...api.Change) []api.Change { return l }

// user is the text of a user of an id who is in a group, of an age, with a boss.
func user(id, age, boss string) string {
	return `User::"` + id + `" in [Group::"g"] {age: ` + age + `, boss: User::"` + boss + `"};`
}

// house are changes that make the state of most tests of nothing.
func house() []api.Change {
	return list(schemaIs(houseText), entityIs(user("a", "3", "b")), entityIs(user("b", "70", "b")), entityIs(`Group::"g" {};`), entityIs(`Doc::"d" {owner: User::"a"};`), policyIs("near", near), policyIs("owners", owners))
}

// some are five commits on the house, one behind the other.
func some() [][]api.Change {
	return [][]api.Change{house(), list(policyIs("open", open)), list(forget("owners"), entityIs(user("a", "9", "a"))), nil, list(policyIs("old", old), forget("open"))}
}

// committed are versions with commits behind them.
func committed(t *testing.T, v api.Versions, lists ...[]api.Change) api.Versions {
	t.Helper()
	for _, l := range lists {
		w, why, n := window.Commit(v, l)
		if why != api.OK || n != len(l) {
			t.Fatalf("Commit of %v: error %d at %d", l, why, n)
		}
		v = w
	}
	return v
}

// full are the versions behind some commits: as many as are kept.
func full(t *testing.T) api.Versions {
	t.Helper()
	return committed(t, window.New(), some()...)
}

// view is a request that fits the house.
func view(principal string, far bool) api.Request {
	r, _ := value.Record([]string{"far"}, []api.Value{{Kind: api.KindBool, B: far}})
	return api.Request{Principal: uid("User", principal), Action: uid("Action", "view"), Resource: uid("Doc", "d"), Context: r}
}

// same tells whether two plain things are alike, empty lists being as none.
func same(a, b api.Versions) bool {
	return reflect.DeepEqual(fresh.Versions(a), fresh.Versions(b))
}

func sameState(a, b api.State) bool {
	return reflect.DeepEqual(fresh.State(a), fresh.State(b))
}

// none tells whether versions are zero.
func none(v api.Versions) bool {
	return v.First == 0 && len(v.States) == 0 && len(v.Lists) == 0
}

// The sections Limits and Errors, as far as they speak of versions.
func TestLimitsAndErrors(t *testing.T) {
	if api.Window != 4 || api.MaxChanges != 16 || api.MaxText != 2048 {
		t.Error("a limit is another one")
	}
	if api.OK != 0 || api.ErrMany != 2 || api.ErrLong != 3 || api.ErrSyntax != 5 || api.ErrOver != 11 || api.ErrState != 13 || api.ErrForm != 14 || api.ErrExpired != 18 || api.ErrVersion != 19 {
		t.Error("an error's number is another one")
	}
}

// Promise 17.1 of New.
func TestNew(t *testing.T) {
	v := window.New()
	if v.First != 0 || len(v.States) != 1 || len(v.Lists) != 0 || !sameState(v.States[0], api.State{}) {
		t.Errorf("%v", v)
	}
	if why := window.Check(v); why != api.OK {
		t.Errorf("Check: error %d", why)
	}
	if n, why := window.Last(v); n != 0 || why != api.OK {
		t.Errorf("Last: %d, error %d", n, why)
	}
	v.States[0].Schema = full(t).States[0].Schema
	if w := window.New(); !sameState(w.States[0], api.State{}) {
		t.Error("New shares memory with an earlier answer")
	}
}

// refused asks that each call of versions that have no shape is ErrState, ahead of all else, and answers nothing beside it.
func refused(t *testing.T, v api.Versions) {
	t.Helper()
	if why := window.Check(v); why != api.ErrState {
		t.Errorf("Check: error %d", why)
	}
	if n, why := window.Last(v); n != 0 || why != api.ErrState {
		t.Errorf("Last: %d, error %d", n, why)
	}
	for i, l := range [][]api.Change{nil, house(), {{}}, make([]api.Change, 17)} {
		if w, why, n := window.Commit(v, l); !none(w) || why != api.ErrState || n != 0 {
			t.Errorf("Commit of list %d: %v, error %d at %d", i, w, why, n)
		}
	}
	for _, n := range []uint64{0, 1, v.First, v.First - 1, v.First + 1, math.MaxUint64} {
		if s, why := window.At(v, n); !sameState(s, api.State{}) || why != api.ErrState {
			t.Errorf("At %d: %v, error %d", n, s, why)
		}
		for _, q := range []api.Request{{}, view("a", true)} {
			if d, why := window.Decide(v, n, q); !reflect.DeepEqual(d, api.Decision{}) || why != api.ErrState {
				t.Errorf("Decide at %d: %v, error %d", n, d, why)
			}
		}
	}
	if s, why := window.Pack(v); s != "" || why != api.ErrState {
		t.Errorf("Pack: %q, error %d", s, why)
	}
}

// Words, promise 17.1, and P2: which versions have a shape, whatever their states are.
func TestShape(t *testing.T) {
	firsts := []uint64{0, 1, 1<<63 - 1, 1 << 63, 1<<63 + 1, math.MaxUint64}
	for states := range 7 {
		for lists := range 7 {
			for _, first := range firsts {
				v := api.Versions{First: first, States: make([]api.State, states), Lists: make([][]api.Change, lists)}
				if states == 0 || states > 4 || lists != states-1 || first > 1<<63 {
					refused(t, v)
					continue
				}
				if why := window.Check(v); why != api.OK {
					t.Errorf("%v: error %d", v, why)
				}
				if n, why := window.Last(v); n != first+uint64(states)-1 || why != api.OK {
					t.Errorf("%v: last %d, error %d", v, n, why)
				}
			}
		}
	}
	refused(t, api.Versions{})
	refused(t, api.Versions{States: []api.State{}, Lists: [][]api.Change{}})
	v := full(t)
	v.First = 1<<63 + 1
	refused(t, v)
	v = full(t)
	v.Lists = v.Lists[1:]
	refused(t, v)
}

// Promise 17.1: but of a shape no call asks whether the versions are right; Check alone does.
func TestRightIsNotAsked(t *testing.T) {
	v := full(t)
	for i := range v.States[:3] {
		v.States[i] = api.State{Policies: make([]api.Named, 1)}
	}
	v.Lists = [][]api.Change{{{}}, make([]api.Change, 300), {forget("none")}}
	if why := window.Check(v); why != api.ErrState {
		t.Errorf("Check: error %d", why)
	}
	if n, why := window.Last(v); n != 5 || why != api.OK {
		t.Errorf("Last: %d, error %d", n, why)
	}
	for n := uint64(2); n < 5; n++ {
		if s, why := window.At(v, n); !sameState(s, v.States[0]) || why != api.OK {
			t.Errorf("At %d: %v, error %d", n, s, why)
		}
	}
	want, why, _ := change.Apply(v.States[3], list(forget("old")))
	w, no, n := window.Commit(v, list(forget("old")))
	if why != api.OK || no != api.OK || n != 1 || w.First != 3 || !sameState(w.States[3], want) || !sameState(w.States[0], v.States[1]) || len(w.Lists) != 3 || len(w.Lists[0]) != 300 {
		t.Errorf("Commit: %v, error %d at %d", w, no, n)
	}
	if d, why := window.Decide(v, 5, view("b", false)); !d.Allow || why != api.OK {
		t.Errorf("Decide: %v, error %d", d, why)
	}
}

// Promise 17.1 of Check: versions that are right, at the edges.
func TestRightVersions(t *testing.T) {
	all := full(t)
	if len(all.States) != 4 {
		t.Fatalf("%d states", len(all.States))
	}
	for _, first := range []uint64{0, 2, 77, 1<<63 - 1, 1 << 63} {
		for from := range 4 {
			for to := from + 1; to <= 4; to++ {
				v := api.Versions{First: first, States: all.States[from:to], Lists: all.Lists[from : to-1]}
				if why := window.Check(v); why != api.OK {
					t.Errorf("states %d to %d from %d on: error %d", from, to, first, why)
				}
			}
		}
	}
	empty := api.Versions{States: []api.State{{Schema: api.Schema{Types: []api.EntityType{}, Actions: []api.Action{}}, Policies: []api.Named{}, Entities: []api.Entity{}}, {}}, Lists: [][]api.Change{{}}}
	if why := window.Check(empty); why != api.OK {
		t.Errorf("empty lists: error %d", why)
	}
}

// Promise 17.1 of Check, and P2: versions that are not right, each for another reason.
func TestWrongVersions(t *testing.T) {
	for name, spoil := range map[string]func(v *api.Versions){
		"no state":                     func(v *api.Versions) { *v = api.Versions{} },
		"a state too many":             func(v *api.Versions) { v.States, v.Lists = append(v.States, v.States[3]), append(v.Lists, nil) },
		"a list too few":               func(v *api.Versions) { v.Lists = v.Lists[:2] },
		"a list too many":              func(v *api.Versions) { v.Lists = append(v.Lists, nil) },
		"a first one too great":        func(v *api.Versions) { v.First = 1<<63 + 1 },
		"a first state not right":      func(v *api.Versions) { v.States[0].Policies[0].Id = "" },
		"that alone":                   func(v *api.Versions) { *v = api.Versions{States: []api.State{{Policies: make([]api.Named, 1)}}} },
		"a first state that fits not":  func(v *api.Versions) { v.States[0].Entities = v.States[0].Entities[1:] },
		"another first state":          func(v *api.Versions) { v.States[0] = api.State{} },
		"a state of no list":           func(v *api.Versions) { v.States[1] = v.States[0] },
		"another last state":           func(v *api.Versions) { v.States[3] = v.States[2] },
		"a state that is not right":    func(v *api.Versions) { v.States[3].Policies = make([]api.Named, 1) },
		"states the other way round":   func(v *api.Versions) { slices.Reverse(v.States) },
		"lists the other way round":    func(v *api.Versions) { slices.Reverse(v.Lists) },
		"another list":                 func(v *api.Versions) { v.Lists[0] = list(forget("near")) },
		"no list between":              func(v *api.Versions) { v.Lists[2] = nil },
		"a list that may not be done":  func(v *api.Versions) { v.Lists[1] = list(forget("none")) },
		"a list that is none":          func(v *api.Versions) { v.Lists[1] = list(api.Change{}) },
		"a list that is too long":      func(v *api.Versions) { v.Lists[1] = slices.Repeat(list(policyIs("near", near)), 17) },
		"a list after which none fits": func(v *api.Versions) { v.Lists[1] = list(drop("User", "b")) },
	} {
		v := fresh.Versions(full(t))
		spoil(&v)
		if why := window.Check(v); why != api.ErrState {
			t.Errorf("%s: error %d", name, why)
		}
	}
}

// Example 1, example 9 of the whole, and promises 17.2 of At, 17.7: behind n commits just the last ones are kept.
func TestJustSome(t *testing.T) {
	v, states := window.New(), []api.State{{}}
	for i := range 30 {
		l := list(policyIs(string(rune('a'+i%20)), open))
		s, _, _ := change.Apply(states[i], l)
		states = append(states, s)
		v = committed(t, v, l)
		if n, why := window.Last(v); n != uint64(i)+1 || why != api.OK {
			t.Fatalf("behind %d commits: last %d, error %d", i+1, n, why)
		}
		for n, want := range states {
			s, why := window.At(v, uint64(n))
			if i+1-n >= 4 && (why != api.ErrExpired || !sameState(s, api.State{})) || i+1-n < 4 && (why != api.OK || !sameState(s, want)) {
				t.Fatalf("behind %d commits: version %d is %v, error %d", i+1, n, s, why)
			}
		}
		for _, n := range []uint64{uint64(i) + 2, uint64(i) + 3, 1 << 63, math.MaxUint64} {
			if s, why := window.At(v, n); why != api.ErrVersion || !sameState(s, api.State{}) {
				t.Fatalf("behind %d commits: version %d is %v, error %d", i+1, n, s, why)
			}
		}
		switch _, three := window.At(v, 3); {
		case i == 4 && v.First != 2:
			t.Errorf("behind five commits: from %d on", v.First)
		case i == 5 && (v.First != 3 || three != api.OK):
			t.Errorf("behind six commits: from %d on, version 3 is error %d", v.First, three)
		}
	}
}

// Promise 17.2 of At, and promise 17.1 of Last: as far as versions may go.
func TestTheGreatestVersions(t *testing.T) {
	v := full(t)
	for _, first := range []uint64{5, 1<<63 - 1, 1 << 63} {
		v.First = first
		if n, why := window.Last(v); n != first+3 || why != api.OK {
			t.Errorf("from %d on: last %d, error %d", first, n, why)
		}
		for n, want := range map[uint64]api.Errno{0: api.ErrExpired, first - 1: api.ErrExpired, first: api.OK, first + 3: api.OK, first + 4: api.ErrVersion, math.MaxUint64: api.ErrVersion} {
			s, why := window.At(v, n)
			if why != want || why != api.OK && !sameState(s, api.State{}) || why == api.OK && !sameState(s, v.States[n-first]) {
				t.Errorf("from %d on, version %d: %v, error %d", first, n, s, why)
			}
			if d, no := window.Decide(v, n, api.Request{}); no == api.OK || why != api.OK && no != want || !reflect.DeepEqual(d, api.Decision{}) {
				t.Errorf("from %d on, version %d: %v, error %d", first, n, d, no)
			}
		}
	}
}

// Promise 17.2 of Commit: ErrOver of the greatest First, be there room or not, ahead of what may not be done.
func TestCommitAtTheEnd(t *testing.T) {
	all := full(t)
	for states := 1; states <= 4; states++ {
		v := api.Versions{First: 1 << 63, States: all.States[:states], Lists: all.Lists[:states-1]}
		for i, l := range [][]api.Change{nil, list(forget("near")), list(forget("none")), make([]api.Change, 17)} {
			if w, why, n := window.Commit(v, l); !none(w) || why != api.ErrOver || n != 0 {
				t.Errorf("%d states, list %d: %v, error %d at %d", states, i, w, why, n)
			}
		}
		v.First--
		w := committed(t, v, list(forget("near")))
		if n, _ := window.Last(w); n != 1<<63-1+uint64(states) || len(w.States) != min(4, states+1) || window.Check(w) != api.OK {
			t.Errorf("%d states: last %d", states, n)
		}
	}
	wrong := api.Versions{First: 1 << 63, States: []api.State{{Policies: make([]api.Named, 1)}}}
	if w, why, n := window.Commit(wrong, nil); !none(w) || why != api.ErrOver || n != 0 {
		t.Errorf("%v, error %d at %d", w, why, n)
	}
}

// Promise 17.2 of Commit, and P2: change.Apply's errors, and their places.
func TestWhatACommitRefuses(t *testing.T) {
	v := full(t)
	for name, x := range map[string]struct {
		l    []api.Change
		want api.Errno
		at   int
	}{
		"no such policy":                {list(policyIs("p", open), forget("none")), api.ErrUnknown, 1},
		"no such entity":                {list(drop("User", "none")), api.ErrUnknown, 0},
		"no text":                       {list(forget("near"), forget("old"), schemaIs("entity")), api.ErrSyntax, 2},
		"a change that is none":         {list(forget("none"), api.Change{Kind: api.ChangeCount}), api.ErrSyntax, 1},
		"too many":                      {make([]api.Change, 17), api.ErrMany, 0},
		"an Id too long":                {list(policyIs(strings.Repeat("i", 65), open)), api.ErrLong, 0},
		"an Id that is no text":         {list(policyIs("\xff", open)), api.ErrUtf, 0},
		"somebody above themselves":     {list(entityIs(`Group::"h" in [Group::"g"] {};`), entityIs(`Group::"g" in [Group::"h"] {};`)), api.ErrCycle, 1},
		"a policy that does not fit":    {list(forget("near"), policyIs("p", `permit(principal, action, resource) when { principal.name };`)), api.ErrMissing, 1},
		"an entity that does not fit":   {list(entityIs(`Doc::"e" {owner: 1};`)), api.ErrType, 0},
		"nothing fits behind all":       {list(drop("User", "a")), api.ErrMissing, 1},
		"a schema that does not fit":    {list(schemaIs(strings.Replace(houseText, "age: Long", "old: Long", 1))), api.ErrType, 1},
		"a number that is too great":    {list(entityIs(user("c", "9223372036854775808", "c"))), api.ErrSyntax, 0},
		"a text that is nested too far": {list(policyIs("p", `permit(principal, action, resource) when { `+strings.Repeat("!", 17)+`true };`)), api.ErrDepth, 0},
	} {
		_, why, place := change.Apply(v.States[3], x.l)
		if why != x.want || place != x.at {
			t.Errorf("%s: Apply: error %d at %d", name, why, place)
		}
		if w, why, n := window.Commit(v, x.l); !none(w) || why != x.want || n != x.at {
			t.Errorf("%s: %v, error %d at %d", name, w, why, n)
		}
	}
	for states := range 4 {
		w := fresh.Versions(api.Versions{States: v.States[:states+1], Lists: v.Lists[:states]})
		w.States[states].Policies[0].Id = ""
		if u, why, n := window.Commit(w, nil); !none(u) || why != api.ErrState || n != 0 {
			t.Errorf("a last state that is not right: %v, error %d at %d", u, why, n)
		}
	}
}

// Promise 17.2 of Decide, and P3: the version's error ahead of the request's, that ahead of the policies'.
func TestWhatDecideRefuses(t *testing.T) {
	v := full(t)
	fits, odd := view("a", true), api.Request{}
	unknown, nobody, noContext := view("a", true), view("none", true), view("a", true)
	unknown.Action.Id, noContext.Context = "none", api.Value{Kind: api.KindRecord}
	wrong := fresh.Versions(v)
	wrong.States[3].Policies = make([]api.Named, 33)
	noRow := fresh.Versions(wrong)
	noRow.States[3].Entities = make([]api.Entity, 65)
	noSchema := fresh.Versions(noRow)
	noSchema.States[3].Schema.Types = make([]api.EntityType, 17)
	for name, x := range map[string]struct {
		v    api.Versions
		n    uint64
		q    api.Request
		want api.Errno
	}{
		"not there yet":                  {v, 6, odd, api.ErrVersion},
		"expired":                        {v, 1, odd, api.ErrExpired},
		"no type":                        {v, 5, odd, conform.Request(v.States[3].Schema, v.States[3].Entities, odd)},
		"no such action":                 {v, 5, unknown, api.ErrUnknown},
		"nobody":                         {v, 5, nobody, api.ErrMissing},
		"no context":                     {v, 5, noContext, api.ErrType},
		"policies that are none":         {wrong, 5, fits, api.ErrMany},
		"those, and nobody":              {wrong, 5, nobody, api.ErrMissing},
		"those, of another version":      {wrong, 6, fits, api.ErrVersion},
		"those, and entities, too":       {noRow, 5, nobody, api.ErrMany},
		"those, and no schema, too":      {noSchema, 5, nobody, conform.Request(noSchema.States[3].Schema, nil, fits)},
		"nothing of that is of the past": {noSchema, 4, fits, api.OK},
	} {
		d, why := window.Decide(x.v, x.n, x.q)
		if why != x.want || why != api.OK && !reflect.DeepEqual(d, api.Decision{}) {
			t.Errorf("%s: %v, error %d, not %d", name, d, why, x.want)
		}
	}
}

// Promise 17.2 of Decide: what versions decide of requests that fit.
func TestDecide(t *testing.T) {
	v := full(t)
	for _, x := range []struct {
		n    uint64
		q    api.Request
		want api.Decision
	}{
		{2, view("a", false), api.Decision{Allow: true, Ids: []string{"open", "owners"}}},
		{2, view("b", false), api.Decision{Allow: true, Ids: []string{"open"}}},
		{2, view("a", true), api.Decision{Ids: []string{"near"}}},
		{3, view("a", false), api.Decision{Allow: true, Ids: []string{"open"}}},
		{4, view("a", false), api.Decision{Allow: true, Ids: []string{"open"}}},
		{5, view("a", false), api.Decision{Allow: true, Ids: []string{"old"}}},
		{5, view("b", true), api.Decision{Ids: []string{"near"}}},
	} {
		d, why := window.Decide(v, x.n, x.q)
		if why != api.OK || d.Allow != x.want.Allow || !slices.Equal(d.Ids, x.want.Ids) || len(d.Errors) != 0 {
			t.Errorf("version %d of %v: %v, error %d", x.n, x.q, d, why)
		}
		direct, _ := auth.Decide(v.States[x.n-2].Policies, x.q, v.States[x.n-2].Entities)
		if !reflect.DeepEqual(d, direct) {
			t.Errorf("version %d of %v: %v, not %v", x.n, x.q, d, direct)
		}
	}
	v = committed(t, v, list(entityIs(user("a", "9223372036854775807", "a"))))
	if d, why := window.Decide(v, 6, view("a", false)); why != api.OK || d.Allow || len(d.Ids) != 0 || !slices.Equal(d.Errors, []string{"old"}) {
		t.Errorf("a number that is too great: %v, error %d", d, why)
	}
}

// P4.
func TestNoGoroutineIsLeft(t *testing.T) {
	before := runtime.NumGoroutine()
	v := full(t)
	window.Check(v)
	window.Last(v)
	window.At(v, 3)
	window.Decide(v, 3, view("a", true))
	window.Commit(v, make([]api.Change, 17))
	s, _ := window.Pack(v)
	window.Unpack(s)
	window.Unpack(s[1:])
	if after := runtime.NumGoroutine(); after > before {
		t.Errorf("%d goroutines, before %d", after, before)
	}
}
