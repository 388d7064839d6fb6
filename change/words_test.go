package change_test

import (
	"cmp"
	"maps"
	"math/rand"
	"reflect"
	"slices"
	"strconv"
	"strings"
	"testing"
	"unicode/utf8"

	"lictor/api"
	"lictor/auth"
	"lictor/change"
	"lictor/conform"
	"lictor/entity"
	"lictor/eval"
	"lictor/fresh"
	"lictor/policy"
	"lictor/schema"
	"lictor/value"
)

// This file tells chapter 16's words another way, makes states and changes by chance, and holds the package against that.

// told is a state of which chapter 16's words are asked.
type told struct {
	x        api.Schema
	policies map[string]api.Policy
	entities map[api.Uid]api.Entity
}

func toldOf(s api.State) told {
	w := told{s.Schema, map[string]api.Policy{}, map[api.Uid]api.Entity{}}
	for _, n := range s.Policies {
		w.policies[n.Id] = n.Policy
	}
	for _, e := range s.Entities {
		w.entities[e.Uid] = e
	}
	return w
}

// state has all in order.
func (w told) state() api.State {
	s := api.State{Schema: w.x}
	for _, id := range slices.Sorted(maps.Keys(w.policies)) {
		s.Policies = append(s.Policies, api.Named{Id: id, Policy: w.policies[id]})
	}
	for _, e := range w.entities {
		s.Entities = append(s.Entities, e)
	}
	slices.SortFunc(s.Entities, func(a, b api.Entity) int {
		return cmp.Or(strings.Compare(a.Uid.Type, b.Uid.Type), strings.Compare(a.Uid.Id, b.Uid.Id))
	})
	return s
}

// round tells whether somebody is met again on the way up from themselves.
func (w told) round(u api.Uid, way ...api.Uid) bool {
	if slices.Contains(way, u) {
		return true
	}
	for _, parent := range w.entities[u].Parents {
		if w.round(parent, append(slices.Clone(way), u)...) {
			return true
		}
	}
	return false
}

// do does a change.
func (w *told) do(c api.Change) api.Errno {
	switch c.Kind {
	case api.ChangeSchema:
		x, why, _ := schema.Parse(c.Text)
		if s, _ := schema.Print(x); why == api.OK && len(s) > 2048 {
			why = api.ErrLong
		}
		if w.x = x; why != api.OK {
			return why
		}
	case api.ChangePolicy:
		p, why, _ := policy.Parse(c.Text)
		_, there := w.policies[c.Id]
		s, _ := policy.Print(p)
		switch {
		case why != api.OK:
			return why
		case len(s) > 2048:
			return api.ErrLong
		case !there && len(w.policies) == 32:
			return api.ErrMany
		case c.Id == "" || len(c.Id) > 64:
			return api.ErrLong
		case !utf8.ValidString(c.Id):
			return api.ErrUtf
		}
		w.policies[c.Id] = p
	case api.ChangeForget:
		if _, there := w.policies[c.Id]; !there {
			return api.ErrUnknown
		}
		delete(w.policies, c.Id)
	case api.ChangeEntity:
		e, why, _ := entity.Parse(c.Text)
		_, there := w.entities[e.Uid]
		s, _ := entity.Print(e)
		switch {
		case why != api.OK:
			return why
		case len(s) > 2048:
			return api.ErrLong
		case !there && len(w.entities) == 64:
			return api.ErrMany
		}
		if w.entities[e.Uid] = e; w.round(e.Uid) {
			return api.ErrCycle
		}
	case api.ChangeDrop:
		if _, there := w.entities[c.Uid]; !there {
			return api.ErrUnknown
		}
		delete(w.entities, c.Uid)
	}
	return api.OK
}

// fits tells why not all fits, and the place that is told with it.
func (w told) fits(l []api.Change) (api.Errno, int) {
	s := w.state()
	for i, c := range l {
		p, isPolicy := w.policies[c.Id]
		if isPolicy = isPolicy && c.Kind == api.ChangePolicy; isPolicy {
			if why := conform.Policy(s.Schema, s.Entities, p); why != api.OK {
				return why, i
			}
		}
		if c.Kind == api.ChangeEntity {
			e, _, _ := entity.Parse(c.Text)
			if there, is := w.entities[e.Uid]; is {
				if why := conform.Entity(s.Schema, s.Entities, there); why != api.OK {
					return why, i
				}
			}
		}
	}
	whys := []api.Errno{}
	for _, e := range s.Entities {
		whys = append(whys, conform.Entity(s.Schema, s.Entities, e))
	}
	for _, n := range s.Policies {
		whys = append(whys, conform.Policy(s.Schema, s.Entities, n.Policy))
	}
	i := slices.IndexFunc(whys, func(why api.Errno) bool { return why != api.OK })
	if i < 0 {
		return api.OK, len(l)
	}
	return whys[i], len(l)
}

// badKind tells whether a change is not right.
func badKind(c api.Change) bool {
	empty := []bool{c.Id == "", c.Text == "", c.Uid == api.Uid{}}
	may := map[api.ChangeKind][]bool{api.ChangeSchema: {false, true, false}, api.ChangePolicy: {true, true, false}, api.ChangeForget: {true, false, false}, api.ChangeEntity: {false, true, false}, api.ChangeDrop: {false, false, true}}[c.Kind]
	for i := range may {
		if !may[i] && !empty[i] {
			return true
		}
	}
	return may == nil
}

// apply does changes to a right state.
func (w told) apply(l []api.Change) (api.State, api.Errno, int) {
	if len(l) > 16 {
		return api.State{}, api.ErrMany, 0
	}
	if i := slices.IndexFunc(l, badKind); i >= 0 {
		return api.State{}, api.ErrSyntax, i
	}
	for i, c := range l {
		if why := w.do(c); why != api.OK {
			return api.State{}, why, i
		}
	}
	why, place := w.fits(l)
	if why != api.OK {
		return api.State{}, why, place
	}
	return w.state(), api.OK, place
}

// right tells whether a state is right.
func right(s api.State) bool {
	if schema.Check(s.Schema) != api.OK || auth.Check(s.Policies) != api.OK || entity.CheckRow(s.Entities) != api.OK {
		return false
	}
	text, _ := schema.Print(s.Schema)
	x, why, _ := schema.Parse(text)
	if why != api.OK || !reflect.DeepEqual(fresh.Schema(x), fresh.Schema(s.Schema)) {
		return false
	}
	for _, n := range s.Policies {
		text, _ := policy.Print(n.Policy)
		p, why, _ := policy.Parse(text)
		if why != api.OK || !reflect.DeepEqual(fresh.Policy(p), fresh.Policy(n.Policy)) {
			return false
		}
	}
	for _, e := range s.Entities {
		text, _ := entity.Print(e)
		f, why, _ := entity.Parse(text)
		if why != api.OK || !reflect.DeepEqual(fresh.Entity(f), fresh.Entity(e)) {
			return false
		}
	}
	why, _ = toldOf(s).fits(nil)
	return why == api.OK
}

// maker makes changes by chance; hidden are texts that may not be kept.
type maker struct {
	*rand.Rand
	hidden []api.Change
}

func newMaker(t *testing.T, seed int64) maker {
	return maker{rand.New(rand.NewSource(seed)), list(schemaIs(sizedSchema(t, 2049)), policyIs("p", sizedPolicy(t, 2049)), entityIs(sizedEntity(t, 2049)))}
}

// one is one of a list.
func (m maker) one(l ...string) string { return l[m.Intn(len(l))] }

// slip tells, once in so often, that something is to be wrong.
func (m maker) slip(often int) bool { return m.Intn(often) == 0 }

// schemaText is that of the house, or another one like it, or now and then none.
func (m maker) schemaText() string {
	if m.slip(6) {
		return m.one(`entity`, `entity A in [B] {};`, `entity A {}; entity A {};`, ``, strings.Repeat(" ", 2049), `entity A {"": Long};`, "action \"\xff\"")
	}
	return strings.NewReplacer("age: Long", m.one("age: Long", "age: Long", "age: Long", "age: String", "old: Long"), "boss: User", m.one("boss: User", "boss: User", "boss: User", "boss: Group"), "{far: Bool}", m.one("{far: Bool}", "{far: Bool}", "{far: Long}", "{}"), "entity Doc", m.one("entity Doc", "entity Doc", "entity Odd {}; entity Doc"), "Group, User", m.one("Group, User", "User")).Replace(houseText)
}

// entityText is that of an entity that fits, or now and then does not, or is none.
func (m maker) entityText() string {
	who := func() string { return m.one("a", "b", "c", "e", "f") }
	if m.slip(15) {
		return m.one(`User::"a"`, `User::"a" {age: context.a};`, `Group::"g" in [Group::"g"] {};`, `Group::"h" in [Group::"g", Group::"g"] {};`, strings.Repeat(" ", 2049), `User::"a" {age: -9223372036854775807 - 2, boss: User::"a"};`, "User::\"\xff\" {};", `Nope::"n" {};`, `Action::"view" {};`, `User::"a" {age: 1};`, `User::"b" {age: true, boss: User::"b"};`)
	}
	switch m.Intn(4) {
	case 0:
		groups := []string{"g", "h", "i", "j"}
		if i := m.Intn(4); i < 3 && !m.slip(6) {
			return `Group::"` + groups[i] + `" in [Group::"` + groups[i+1] + `"] {};`
		}
		return `Group::"` + m.one(groups...) + `" ` + m.one("", "", `in [Group::"`+m.one(groups...)+`"]`) + ` {};`
	case 1:
		return `Doc::"` + m.one("d", "dd") + `" {owner: User::"` + who() + `", tags: [` + m.one("", `"x"`, `"x", "y", "x"`) + `]};`
	}
	return `User::"` + who() + `" in [Group::"` + m.one("g", "h", "i", "j") + `"] {age: ` + m.one("0", "-5", "9223372036854775807", "7 - 8") + `, boss: User::"` + who() + `"};`
}

// policyText is that of a policy that fits, or now and then does not, or is none.
func (m maker) policyText() string {
	if m.slip(10) {
		return m.one(noType, noAge, noUser, noAction, ``, `permit(principal);`, strings.Repeat(" ", 2049), `permit(principal, action, resource) when { `+strings.Repeat("!", 17)+`true };`, "permit(principal == U::\"\xff\", action, resource);")
	}
	return m.one("permit", "forbid") + `(principal ` + m.one("", "", "is User", `== User::"`+m.one("a", "b")+`"`, `in Group::"`+m.one("g", "h")+`"`) + `, action == Action::"` + m.one("view", "edit") + `", resource is Doc) ` + m.one("", "when { resource.owner == principal }", `unless { resource.tags.contains("x") }`, "when { resource.owner.age + resource.owner.boss.age > 0 }", "when { resource.owner.age * 2 > 5 }", "when { context == context }") + ";"
}

// change is a change by chance.
func (m maker) change() api.Change {
	id := m.one("p", "q", "r", "s")
	if m.slip(40) {
		return m.hidden[m.Intn(len(m.hidden))]
	}
	if m.slip(60) {
		return badKinds()[m.Intn(len(badKinds()))]
	}
	if m.slip(40) {
		id = m.one("", "\xff", strings.Repeat("i", 65))
	}
	switch n := m.Intn(40); {
	case n < 2:
		return schemaIs(m.schemaText())
	case n < 14:
		return policyIs(id, m.policyText())
	case n < 16:
		return forget(id)
	case n < 20:
		return drop(m.one("User", "Group", "Doc"), m.one("a", "b", "c", "d", "e", "g", "h", "i"))
	}
	return entityIs(m.entityText())
}

// changes are some by chance, on the whole as many as may be.
func (m maker) changes() []api.Change {
	var l []api.Change
	n := m.Intn(6)
	if m.slip(10) {
		n = m.Intn(20)
	}
	for range n {
		l = append(l, m.change())
	}
	return l
}

// Promises 16.1, 16.4 and P2: transactions by chance, one behind the other, against the words.
func TestByTheWords(t *testing.T) {
	m := newMaker(t, 16)
	type answer struct {
		why   api.Errno
		where string
	}
	seen := map[answer]int{}
	for range 60 {
		s := house(t)
		for range 80 {
			l := m.changes()
			want, why, place := toldOf(s).apply(l)
			behind, no, at := change.Apply(s, l)
			if no != why || at != place || !same(behind, want) {
				t.Fatalf("%v done to %v: %v, error %d at %d, not %v, error %d at %d", l, s, behind, no, at, want, why, place)
			}
			if no != api.OK && !reflect.DeepEqual(behind, api.State{}) {
				t.Fatalf("%v beside error %d", behind, no)
			}
			where := "within"
			if at == len(l) {
				where = "behind"
			}
			seen[answer{no, where}]++
			if no != api.OK {
				continue
			}
			if !right(behind) || change.Check(behind) != api.OK {
				t.Fatalf("%v done to %v: %v is not right", l, s, behind)
			}
			s = behind
		}
	}
	for _, c := range []struct {
		answer
		least int
	}{
		{answer{api.OK, "behind"}, 500}, {answer{api.ErrMissing, "within"}, 100}, {answer{api.ErrMissing, "behind"}, 20}, {answer{api.ErrType, "within"}, 20}, {answer{api.ErrType, "behind"}, 20}, {answer{api.ErrUnknown, "within"}, 50}, {answer{api.ErrSyntax, "within"}, 50}, {answer{api.ErrLong, "within"}, 50}, {answer{api.ErrCycle, "within"}, 20}, {answer{api.ErrUtf, "within"}, 20}, {answer{api.ErrMany, "within"}, 5}, {answer{api.ErrTwice, "within"}, 5}, {answer{api.ErrOver, "within"}, 5}, {answer{api.ErrDepth, "within"}, 5},
	} {
		if seen[c.answer] < c.least {
			t.Errorf("error %d comes %s the changes %d times", c.why, c.where, seen[c.answer])
		}
	}
}

// someState is one that changes by chance have made.
func (m maker) someState(t *testing.T) api.State {
	s := house(t)
	for range 25 {
		if behind, why, _ := change.Apply(s, m.changes()); why == api.OK {
			s = behind
		}
	}
	return s
}

// Promise 16.1 of Check, and words: states by chance, of which something is as it may not be.
func TestCheckByTheWords(t *testing.T) {
	m := newMaker(t, 161)
	seen := map[bool]int{}
	for range 150 {
		s, other := m.someState(t), m.someState(t)
		for range m.Intn(3) {
			switch n := m.Intn(9); {
			case n == 0:
				s.Schema = other.Schema
			case n == 1:
				s.Policies = other.Policies
			case n == 2:
				s.Entities = other.Entities
			case n == 3 && len(s.Entities) > 1:
				i := m.Intn(len(s.Entities))
				s.Entities = slices.Delete(s.Entities, i, i+1)
			case n == 4 && len(s.Entities) > 1:
				i := m.Intn(len(s.Entities))
				s.Entities[i].Uid.Id = m.one("a", "z", "zz")
			case n == 5 && len(s.Policies) > 1:
				s.Policies[m.Intn(len(s.Policies))].Id = m.one("a", "q", "z", "")
			case n == 6 && len(s.Policies) > 0:
				s.Policies[m.Intn(len(s.Policies))].Policy.Principal = api.Scope{Kind: api.ScopeIs, Type: m.one("User", "Doc", "Nope", "in")}
			case n == 7:
				s.Schema.Types[m.Intn(len(s.Schema.Types))].Attrs = nil
			case n == 8 && len(s.Entities) > 1:
				s.Entities[m.Intn(len(s.Entities))].Parents = []api.Uid{{Type: "Group", Id: m.one("g", "h", "none")}}
			}
		}
		why := api.OK
		if !right(s) {
			why = api.ErrState
		}
		if no := change.Check(s); no != why {
			t.Fatalf("%v: error %d, not %d", s, no, why)
		}
		if _, no := change.Make(s); no != why {
			t.Fatalf("Make of %v: error %d, not %d", s, no, why)
		}
		seen[why == api.OK]++
	}
	if seen[true] < 40 || seen[false] < 40 {
		t.Errorf("%d are right, %d are not", seen[true], seen[false])
	}
}

// Promises 16.5, 16.6 and P5: states by chance are made again of what Make answers, by way of its bytes, too.
func TestMadeAgainByChance(t *testing.T) {
	m := newMaker(t, 166)
	at := map[bool]int{}
	for range 150 {
		s := m.someState(t)
		l, why := change.Make(s)
		if why != api.OK {
			t.Fatalf("%v: error %d", s, why)
		}
		bytes, no := change.Pack(l)
		back, never := change.Unpack(bytes)
		if no != api.OK || never != api.OK || !slices.Equal(back, l) {
			t.Fatalf("%v: %v, errors %d, %d", l, back, no, never)
		}
		var done api.State
		for len(back) > 0 {
			n := 1 + m.Intn(len(back))
			if done, why, _ = change.Do(done, back[:n]); why != api.OK {
				t.Fatalf("%v: error %d", l, why)
			}
			back = back[n:]
		}
		if !same(done, s) || change.Check(done) != api.OK {
			t.Fatalf("%v, not %v", done, s)
		}
		again, no := change.Make(done)
		if no != api.OK || !slices.Equal(again, l) {
			t.Fatalf("%v, not %v, error %d", again, l, no)
		}
		if len(l) <= 16 {
			if done, why, _ := change.Apply(api.State{}, l); why != api.OK || !same(done, s) {
				t.Fatalf("%v, not %v, error %d", done, s, why)
			}
		}
		at[len(l) > 12]++
	}
	if at[true] < 10 {
		t.Errorf("just %d are of more than 12 changes", at[true])
	}
}

// P9: in each state that was committed all fits; of a request that fits, a policy comes to true, to false, or to a number that is too great.
func TestNoErrorButOne(t *testing.T) {
	m := newMaker(t, 9)
	asked, over := 0, 0
	for range 120 {
		s := m.someState(t)
		if why, n := conform.All(s.Schema, s.Entities); why != api.OK || n != len(s.Entities) || entity.CheckRow(s.Entities) != api.OK {
			t.Fatalf("%v: error %d at %d", s, why, n)
		}
		for range 30 {
			q := api.Request{Principal: api.Uid{Type: "User", Id: m.one("a", "b", "c")}, Action: api.Uid{Type: "Action", Id: m.one("view", "edit")}, Resource: api.Uid{Type: "Doc", Id: m.one("d", "dd")}, Context: api.Value{Kind: api.KindRecord}}
			if m.Intn(2) == 0 {
				q.Context, _ = value.Record([]string{"far"}, []api.Value{{Kind: api.KindBool, B: m.Intn(2) == 0}})
			}
			if conform.Request(s.Schema, s.Entities, q) != api.OK {
				continue
			}
			d, why := auth.Decide(s.Policies, q, s.Entities)
			if why != api.OK {
				t.Fatalf("%v of %v: error %d", q, s, why)
			}
			asked++
			for _, id := range d.Errors {
				p, _ := auth.Find(s.Policies, id)
				body, _ := policy.Body(p)
				if _, why := eval.Holds(body, q, s.Entities); why != api.ErrOver {
					t.Fatalf("%v of %v: %q comes to error %d", q, s, id, why)
				}
				over++
			}
		}
	}
	if asked < 500 || over < 15 {
		t.Errorf("%d requests fit, %d policies come to a number that is too great", asked, over)
	}
}

// P1: whatever is handed in.
func TestWhateverIsHandedIn(t *testing.T) {
	m := newMaker(t, 1)
	farValue, farType, farExpr := api.Value{Kind: api.KindRecord}, api.Type{Kind: api.TypeLong}, api.Expr{Op: api.OpBool}
	for range 1 << 16 {
		farValue = api.Value{Kind: api.KindSet, List: []api.Value{farValue}}
		farType = api.Type{Kind: api.TypeSet, Of: []api.Type{farType}}
		farExpr = api.Expr{Op: api.OpNot, Kids: []api.Expr{farExpr}}
	}
	broken := []func(s *api.State){
		func(s *api.State) { s.Schema.Types = append(s.Schema.Types, api.EntityType{}) },
		func(s *api.State) { s.Schema.Types = make([]api.EntityType, 40) },
		func(s *api.State) {
			s.Schema.Actions = append(s.Schema.Actions, api.Action{Id: "\xff", Context: make([]api.Attr, 2)})
		},
		func(s *api.State) { s.Schema.Types[0].Attrs = []api.Attr{{Name: "a", Type: farType}} },
		func(s *api.State) {
			s.Schema.Types[0].Attrs = []api.Attr{{Name: "a", Type: api.Type{Kind: api.TypeSet}}}
		},
		func(s *api.State) {
			s.Policies = append(s.Policies, api.Named{Id: "z", Policy: api.Policy{Conds: []api.Cond{{Expr: farExpr}}}})
		},
		func(s *api.State) { s.Policies = make([]api.Named, 40) },
		func(s *api.State) {
			s.Policies = []api.Named{{Id: "a", Policy: api.Policy{Principal: api.Scope{Kind: api.ScopeEqual}}}}
		},
		func(s *api.State) {
			s.Policies = []api.Named{{Id: "a", Policy: api.Policy{Conds: []api.Cond{{Expr: api.Expr{Op: api.OpIf}}}}}}
		},
		func(s *api.State) {
			s.Entities = append(s.Entities, api.Entity{Uid: api.Uid{Type: "Z"}, Attrs: farValue})
		},
		func(s *api.State) { s.Entities = make([]api.Entity, 70) },
		func(s *api.State) {
			s.Entities = []api.Entity{{Uid: api.Uid{Type: "User"}, Attrs: api.Value{Kind: api.KindRecord, Names: []string{"a"}}}}
		},
	}
	long := strings.Repeat("x", 1<<20)
	odd := append(badKinds(), schemaIs(long), policyIs(long, long), forget(long), entityIs(long), drop(long, long), policyIs("p", "\x00"), entityIs(strings.Repeat("{", 2000)), schemaIs(strings.Repeat("entity A {a: Set<", 100)))
	for range 300 {
		s := house(t)
		spoils := m.Intn(2)
		for range spoils {
			broken[m.Intn(len(broken))](&s)
		}
		l := m.changes()
		for range m.Intn(3) {
			l = append(l, odd[m.Intn(len(odd))])
		}
		behind, why, place := change.Apply(s, l)
		if why != api.OK && !reflect.DeepEqual(behind, api.State{}) || place < 0 || place > len(l) || (spoils > 0) != (why == api.ErrState) {
			t.Fatalf("Apply: %v, error %d at %d", behind, why, place)
		}
		if behind, why, place := change.Do(s, l); why != api.OK && !reflect.DeepEqual(behind, api.State{}) || place < 0 || place > len(l) {
			t.Fatalf("Do: %v, error %d at %d", behind, why, place)
		}
		made, why := change.Make(s)
		if (why != api.OK) != (spoils > 0) || why != api.OK && made != nil {
			t.Fatalf("Make: %v, error %d", made, why)
		}
		bytes, why := change.Pack(l)
		if (why == api.OK) != (bytes != "") {
			t.Fatalf("Pack: %q, error %d", bytes, why)
		}
		unpacked(t, bytes+strconv.Itoa(m.Intn(100)))
	}
	unpacked(t, strings.Repeat("\xff", 1<<20))
	unpacked(t, strings.Repeat("\x05", 1<<20))
}
