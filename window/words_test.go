package window_test

import (
	"math/rand"
	"reflect"
	"slices"
	"strings"
	"testing"

	"lictor/api"
	"lictor/auth"
	"lictor/change"
	"lictor/conform"
	"lictor/eval"
	"lictor/fresh"
	"lictor/policy"
	"lictor/window"
)

// This file tells chapter 17's words another way, makes commits by chance, and holds the package against that.

// past is all that was ever committed: state n is that of version n, and list n makes state n + 1 of it.
type past struct {
	states []api.State
	lists  [][]api.Change
}

// commit does a list of changes.
func (p *past) commit(l []api.Change) (api.Errno, int) {
	s, why, n := change.Apply(p.states[len(p.states)-1], l)
	if why == api.OK {
		p.states, p.lists = append(p.states, s), append(p.lists, slices.Clone(l))
	}
	return why, n
}

// versions are those that are kept.
func (p past) versions() api.Versions {
	first := max(0, len(p.states)-4)
	return api.Versions{First: uint64(first), States: p.states[first:], Lists: p.lists[first:]}
}

// decide is what a version decides, and which error.
func (p past) decide(n uint64, q api.Request) (api.Decision, api.Errno) {
	switch {
	case n >= uint64(len(p.states)):
		return api.Decision{}, api.ErrVersion
	case n+4 < uint64(len(p.states)):
		return api.Decision{}, api.ErrExpired
	}
	s := p.states[n]
	if why := conform.Request(s.Schema, s.Entities, q); why != api.OK {
		return api.Decision{}, why
	}
	return auth.Decide(s.Policies, q, s.Entities)
}

// maker makes things by chance.
type maker struct{ *rand.Rand }

func newMaker(seed int64) maker { return maker{rand.New(rand.NewSource(seed))} }

// one is one of a list.
func (m maker) one(l ...string) string { return l[m.Intn(len(l))] }

// change is a change by chance: of most it may be that it is done.
func (m maker) change() api.Change {
	switch n := m.Intn(30); {
	case n < 10:
		return policyIs(m.one("p", "q", "r", "s"), m.one(open, owners, near, old, `forbid(principal == User::"a", action, resource);`, `permit(principal in Group::"g", action, resource) unless { context.far };`, `permit(principal, action, resource) when { principal.boss.age * 3000000000 > 5 };`))
	case n < 13:
		return forget(m.one("p", "q", "r", "s"))
	case n < 20:
		return entityIs(user(m.one("a", "b", "c", "e"), m.one("1", "20", "9223372036854775807", "4000000000"), m.one("a", "b", "c")))
	case n < 22:
		return entityIs(`Doc::"` + m.one("d", "dd") + `" {owner: User::"` + m.one("a", "b", "c") + `"};`)
	case n < 24:
		return drop(m.one("User", "Doc"), m.one("a", "b", "c", "d", "e", "dd"))
	case n < 26:
		return schemaIs(houseText + m.one("", " entity Odd {};", ` action "edit" appliesTo {principal: [User], resource: [Doc], context: {}};`))
	}
	return []api.Change{{}, policyIs("p", "permit"), policyIs("", open), policyIs("p", `permit(principal, action, resource) when { 1 };`), entityIs(`User::"f" {};`), schemaIs("entity"), entityIs(`Group::"g" in [Group::"g"] {};`), forget("none")}[m.Intn(8)]
}

// changes are some by chance; now and then too many.
func (m maker) changes() []api.Change {
	n := m.Intn(4)
	if m.Intn(20) == 0 {
		n = 16 + m.Intn(3)
	}
	var l []api.Change
	for range n {
		l = append(l, m.change())
	}
	if n > 15 {
		for i := range l {
			l[i] = policyIs("p", open)
		}
	}
	return l
}

// request is one by chance, which fits mostly.
func (m maker) request() api.Request {
	q := view(m.one("a", "b", "c", "e"), m.Intn(2) == 0)
	switch m.Intn(8) {
	case 0:
		q.Action.Id = m.one("edit", "none")
		q.Context = api.Value{Kind: api.KindRecord}
	case 1:
		q.Resource = uid(m.one("Doc", "User"), m.one("dd", "a"))
	case 2:
		return api.Request{Principal: q.Principal}
	}
	return q
}

// Promises 17.1, 17.2, 17.5, 17.6, 17.7, P8 and P9: commits by chance, one behind the other; all that is asked of what is kept, against all that was ever committed.
func TestByTheWords(t *testing.T) {
	m := newMaker(17)
	commits, decided := map[api.Errno]int{}, map[api.Errno]int{}
	for range 25 {
		v, p := committed(t, window.New(), house()), past{states: []api.State{{}}}
		p.commit(house())
		for range 40 {
			l := m.changes()
			why, place := p.commit(l)
			w, no, n := window.Commit(v, l)
			if no != why || n != place || why != api.OK && !none(w) {
				t.Fatalf("Commit of %v: error %d at %d, not %d at %d", l, no, n, why, place)
			}
			commits[why]++
			if why == api.OK {
				v = w
			}
			if !same(v, p.versions()) || window.Check(v) != api.OK {
				t.Fatalf("behind %v: %v, not %v", l, v, p.versions())
			}
			for range 6 {
				n, q := uint64(max(0, len(p.states)-6+m.Intn(8))), m.request()
				want, why := p.decide(n, q)
				d, no := window.Decide(v, n, q)
				if no != why || !reflect.DeepEqual(d, want) {
					t.Fatalf("version %d of %v: %v, error %d, not %v, error %d", n, q, d, no, want, why)
				}
				decided[why]++
				s, no := window.At(v, n)
				if (no != api.OK) != (why == api.ErrExpired || why == api.ErrVersion) || no == api.OK && !sameState(s, p.states[n]) {
					t.Fatalf("version %d is %v, error %d", n, s, no)
				}
				for _, id := range d.Errors {
					overAlone(t, s, id, q)
				}
			}
		}
		thereAndBack(t, "by chance", v)
	}
	for why, least := range map[api.Errno]int{api.OK: 300, api.ErrUnknown: 40, api.ErrSyntax: 40, api.ErrMissing: 40, api.ErrMany: 10} {
		if commits[why] < least {
			t.Errorf("just %d commits are error %d", commits[why], why)
		}
	}
	for why, least := range map[api.Errno]int{api.OK: 1000, api.ErrExpired: 100, api.ErrVersion: 100, api.ErrMissing: 20, api.ErrUnknown: 20} {
		if decided[why] < least {
			t.Errorf("just %d requests are error %d", decided[why], why)
		}
	}
}

// overAlone asks that a policy comes to a number that is too great, of a request that fits.
func overAlone(t *testing.T, s api.State, id string, q api.Request) {
	t.Helper()
	p, _ := auth.Find(s.Policies, id)
	body, _ := policy.Body(p)
	if _, why := eval.Holds(body, q, s.Entities); why != api.ErrOver {
		t.Errorf("policy %q of %v: error %d", id, q, why)
	}
}

// right tells whether versions are right.
func right(v api.Versions) bool {
	if v.First > 1<<63 || len(v.States) < 1 || len(v.States) > 4 || len(v.Lists)+1 != len(v.States) || change.Check(v.States[0]) != api.OK {
		return false
	}
	for i := range v.Lists {
		s, why, _ := change.Apply(v.States[i], v.Lists[i])
		if why != api.OK || !sameState(s, v.States[i+1]) {
			return false
		}
	}
	return true
}

// turn changes the part of a value that stands at place n of all, and tells how many places are left ahead of it; of a list its last part is dropped, and another one is put behind it.
func turn(v reflect.Value, n int) int {
	switch v.Kind() {
	case reflect.Struct:
		for i := 0; i < v.NumField() && n >= 0; i++ {
			n = turn(v.Field(i), n)
		}
		return n
	case reflect.Slice:
		for i := 0; i < v.Len() && n >= 0; i++ {
			n = turn(v.Index(i), n)
		}
		places, some := 1, v.Len() > 0
		if some {
			places = 2
		}
		switch {
		case n == 0:
			v.Set(reflect.Append(v, reflect.New(v.Type().Elem()).Elem()))
		case n == 1 && some:
			v.SetLen(v.Len() - 1)
		}
		return n - places
	case reflect.Bool:
		if n == 0 {
			v.SetBool(!v.Bool())
		}
	case reflect.String:
		if n == 0 {
			v.SetString(v.String() + "x")
		}
	case reflect.Int64, reflect.Int:
		if n == 0 {
			v.SetInt(v.Int() + 1)
		}
	default:
		if n == 0 {
			v.SetUint(v.Uint() + 1)
		}
	}
	return n - 1
}

// Promise 17.1 of Check: right versions of which one part is another one, wherever it is.
func TestCheckByTheWords(t *testing.T) {
	all := full(t)
	seen := map[bool]int{}
	for n := 0; ; n++ {
		v := fresh.Versions(all)
		if turn(reflect.ValueOf(&v).Elem(), n) >= 0 {
			break
		}
		want := right(v)
		if why := window.Check(v); (why == api.OK) != want || !want && why != api.ErrState {
			t.Fatalf("part %d: %v: error %d", n, v, why)
		}
		seen[want]++
	}
	if seen[false] < 500 || seen[true] < 1 {
		t.Errorf("%d are right, %d are not", seen[true], seen[false])
	}
}

// Promise 17.5, and P8: what a version decides hangs neither on later ones, nor on how many are kept.
func TestKept(t *testing.T) {
	m := newMaker(175)
	var requests []api.Request
	for range 12 {
		requests = append(requests, m.request())
	}
	for range 10 {
		v := full(t)
		last, _ := window.Last(v)
		state, _ := window.At(v, last)
		answers := map[int]api.Decision{}
		for i, q := range requests {
			if d, why := window.Decide(v, last, q); why == api.OK {
				answers[i] = d
			}
		}
		if len(answers) < 3 {
			t.Fatalf("just %d requests fit", len(answers))
		}
		for left := 3; left >= 0; {
			// With fewer ones ahead of it, it is the same.
			for gone := range left + 1 {
				w := api.Versions{First: v.First + uint64(gone), States: v.States[gone:], Lists: v.Lists[gone:]}
				if s, why := window.At(w, last); why != api.OK || !sameState(s, state) {
					t.Fatalf("version %d is %v, error %d", last, s, why)
				}
				for i, want := range answers {
					if d, why := window.Decide(w, last, requests[i]); why != api.OK || !reflect.DeepEqual(d, want) {
						t.Fatalf("version %d of %v: %v, error %d, not %v", last, requests[i], d, why, want)
					}
				}
			}
			if w, why, _ := window.Commit(v, m.changes()); why == api.OK {
				v = w
				left--
			}
		}
		if _, why := window.At(v, last); why != api.ErrExpired {
			t.Fatalf("version %d: error %d", last, why)
		}
	}
}

// spoil writes over all that lists of a value have, wherever they are, and over the room behind them.
func spoil(v reflect.Value) {
	switch v.Kind() {
	case reflect.Struct:
		for i := range v.NumField() {
			spoil(v.Field(i))
		}
	case reflect.Slice:
		v = v.Slice(0, v.Cap())
		for i := range v.Len() {
			spoil(v.Index(i))
			v.Index(i).SetZero()
		}
	}
}

func spoilVersions(v *api.Versions) { spoil(reflect.ValueOf(v).Elem()) }

// begins counts where each piece of memory that lists of a value have begins.
func begins(v reflect.Value, seen map[uintptr]int) {
	switch v.Kind() {
	case reflect.Struct:
		for i := range v.NumField() {
			begins(v.Field(i), seen)
		}
	case reflect.Slice:
		if v.Len() > 0 {
			seen[v.Pointer()]++
		}
		for i := range v.Len() {
			begins(v.Index(i), seen)
		}
	}
}

// apart asks that no two lists of an answer, and of what was handed in, share memory.
func apart(t *testing.T, name string, given, answer any) {
	t.Helper()
	own, seen := map[uintptr]int{}, map[uintptr]int{}
	begins(reflect.ValueOf(given), own)
	begins(reflect.ValueOf(answer), seen)
	for at, n := range seen {
		if n > 1 {
			t.Errorf("%s: two lists of an answer share memory", name)
		}
		if own[at] > 0 {
			t.Errorf("%s: an answer shares memory with what was handed in", name)
		}
	}
}

// roomy are versions whose lists have room behind them, in which something stands.
func roomy(v api.Versions) api.Versions {
	v = fresh.Versions(v)
	states, lists := append(v.States, v.States[0]), append(v.Lists, house())
	v.States, v.Lists = states[:len(v.States)], lists[:len(v.Lists)]
	return v
}

// Promise 17.4, P2 and P3: nothing that is handed in is changed or kept, room behind a list is no matter, and answers share no memory.
func TestNewMemory(t *testing.T) {
	lists := append([][]api.Change{nil}, some()...)
	for commits := range lists {
		given := committed(t, window.New(), lists[:commits+1]...)
		for i, l := range [][]api.Change{nil, list(policyIs("p", open)), house(), list(forget("none")), make([]api.Change, 17)} {
			v, changes := roomy(given), append(slices.Clone(l), forget("room"))[:len(l)]
			last := len(v.States)
			behind := fresh.State(v.States[:last+1][last])
			one, why, _ := window.Commit(v, changes)
			two, no, _ := window.Commit(v, changes)
			want := fresh.Versions(one)
			if !same(one, two) || why != no || !same(v, given) || !slices.Equal(changes, l) || changes[:len(l)+1][len(l)] != forget("room") {
				t.Fatalf("list %d: another answer, or what was handed in is changed", i)
			}
			if !sameState(v.States[:last+1][last], behind) || len(v.Lists[:last][last-1]) != len(house()) {
				t.Fatalf("list %d: the room behind a list is written", i)
			}
			apart(t, "Commit", v, two)
			spoilVersions(&one)
			if !same(v, given) || !same(two, want) || !slices.Equal(changes, l) {
				t.Fatalf("list %d: an answer shares memory", i)
			}
			spoilVersions(&v)
			clear(changes)
			if !same(two, want) {
				t.Fatalf("list %d: what was handed in is kept", i)
			}
		}
		v := roomy(given)
		last, _ := window.Last(v)
		one, _ := window.At(v, last)
		two, _ := window.At(v, last)
		want := fresh.State(two)
		apart(t, "At", v, one)
		spoil(reflect.ValueOf(&one).Elem())
		window.Check(v)
		window.Decide(v, last, view("a", true))
		if !same(v, given) || !sameState(two, want) {
			t.Fatal("an answer shares memory, or what was handed in is changed")
		}
	}
}

// P1 and P2: whatever is handed in.
func TestWhateverIsHandedIn(t *testing.T) {
	m := newMaker(1)
	far := api.Value{Kind: api.KindRecord}
	for range 1 << 16 {
		far = api.Value{Kind: api.KindSet, List: []api.Value{far}}
	}
	all := full(t)
	states := []api.State{{}, all.States[0], all.States[3], {Policies: make([]api.Named, 40)}, {Entities: []api.Entity{{Uid: uid("A", "a"), Attrs: far}}}, {Schema: api.Schema{Types: make([]api.EntityType, 2)}}, {Schema: api.Schema{Actions: []api.Action{{Id: "v", Context: []api.Attr{{Type: api.Type{Kind: api.TypeSet}}}}}}}, {Policies: []api.Named{{Id: "a", Policy: api.Policy{Conds: make([]api.Cond, 3)}}}}}
	long := strings.Repeat("x", 1<<20)
	lists := append(some(), make([]api.Change, 300), list(policyIs(long, long), drop(long, "\x00")), list(entityIs(strings.Repeat("{", 2000))), list(api.Change{Kind: 255}))
	firsts := []uint64{0, 1, 5, 1<<63 - 1, 1 << 63, 1<<63 + 1, 1<<64 - 1}
	requests := []api.Request{{}, view("a", true), view(long, false), {Context: far}}
	for range 600 {
		v := api.Versions{First: firsts[m.Intn(len(firsts))]}
		for range m.Intn(6) {
			v.States = append(v.States, states[m.Intn(len(states))])
		}
		for range max(0, len(v.States)-1+m.Intn(8)/7) {
			v.Lists = append(v.Lists, lists[m.Intn(len(lists))])
		}
		why := window.Check(v)
		if n, no := window.Last(v); no != api.OK && (n != 0 || why == api.OK) {
			t.Fatalf("last %d, error %d", n, no)
		}
		if w, no, n := window.Commit(v, lists[m.Intn(len(lists))]); no != api.OK && !none(w) || n < 0 || n > 300 {
			t.Fatalf("%v, error %d at %d", w, no, n)
		}
		n := v.First + uint64(m.Intn(8)) - 2
		if s, no := window.At(v, n); no != api.OK && !sameState(s, api.State{}) {
			t.Fatalf("%v, error %d", s, no)
		}
		if d, no := window.Decide(v, n, requests[m.Intn(len(requests))]); no != api.OK && !reflect.DeepEqual(d, api.Decision{}) {
			t.Fatalf("%v, error %d", d, no)
		}
		s, no := window.Pack(v)
		if (s == "") != (no != api.OK) || why == api.OK && no != api.OK {
			t.Fatalf("%q, error %d", s, no)
		}
		if w, no := window.Unpack(s); no != api.OK && !none(w) || why == api.OK && !same(v, w) {
			t.Fatalf("%v, error %d", w, no)
		}
	}
	for _, b := range []string{"\x00", "\x01", "\x02", "\xff"} {
		for _, n := range []int{1, 8, 9, 10, 11, 1000, 1 << 20} {
			window.Unpack(strings.Repeat(b, n))
		}
	}
}
