package change_test

import (
	"fmt"
	"reflect"
	"runtime"
	"slices"
	"strconv"
	"strings"
	"testing"

	"lictor/api"
	"lictor/auth"
	"lictor/change"
	"lictor/entity"
	"lictor/fresh"
	"lictor/policy"
	"lictor/schema"
)

// houseText is the schema of most tests.
const houseText = `entity User in [Group] {age: Long, boss: User};
	entity Group in [Group] {};
	entity Doc {owner: User, tags: Set<String>};
	action "view" appliesTo {principal: [User], resource: [Doc], context: {far: Bool}};
	action "edit" appliesTo {principal: [Group, User], resource: [Doc], context: {}};`

// Changes of each kind.

func schemaIs(s string) api.Change { return api.Change{Kind: api.ChangeSchema, Text: s} }

func policyIs(id, s string) api.Change { return api.Change{Kind: api.ChangePolicy, Id: id, Text: s} }

func forget(id string) api.Change { return api.Change{Kind: api.ChangeForget, Id: id} }

func entityIs(s string) api.Change { return api.Change{Kind: api.ChangeEntity, Text: s} }

func drop(kind, id string) api.Change {
	return api.Change{Kind: api.ChangeDrop, Uid: api.Uid{Type: kind, Id: id}}
}

// user is the text of a user of an id who is in a group, with a boss.
func user(id, group, boss string) string {
	return `User::"` + id + `" in [Group::"` + group + `"] {age: 3, boss: User::"` + boss + `"};`
}

// Texts of policies that fit, and that do not, for another reason each.
const (
	open      = `permit(principal, action, resource);`
	owners    = `permit(principal == User::"a", action == Action::"view", resource) when { resource.owner == principal };`
	noType    = `permit(principal, action, resource) when { 1 };`
	noAge     = `permit(principal, action, resource) when { principal.age < 3 };`
	noUser    = `permit(principal == User::"none", action, resource);`
	noAction  = `permit(principal, action == Action::"view", resource) when { action == Action::"none" };`
	ofNothing = `permit(principal is Doc, action, resource) when { 1 };`
)

// built is a state made by the layers below: of a schema's text, of those of entities, and of policies with their Ids ahead.
func built(t *testing.T, x string, entities []string, policies ...string) api.State {
	t.Helper()
	var s api.State
	must := func(what string, why api.Errno) {
		if t.Helper(); why != api.OK {
			t.Fatalf("%q: error %d", what, why)
		}
	}
	y, why, _ := schema.Parse(x)
	must(x, why)
	s.Schema = y
	for _, text := range entities {
		e, why, _ := entity.Parse(text)
		must(text, why)
		s.Entities, why = entity.Put(s.Entities, e)
		must(text, why)
	}
	for i := 0; i < len(policies); i += 2 {
		p, why, _ := policy.Parse(policies[i+1])
		must(policies[i+1], why)
		s.Policies, why = auth.Put(s.Policies, api.Named{Id: policies[i], Policy: p})
		must(policies[i+1], why)
	}
	return s
}

// people are the texts of the house's entities.
func people(others ...string) []string {
	return append([]string{`Group::"g" {};`, `Group::"h" in [Group::"g"] {};`, user("a", "h", "b"), user("b", "g", "b"), `Doc::"d" {owner: User::"a", tags: ["x"]};`}, others...)
}

// house is the state of most tests.
func house(t *testing.T) api.State {
	t.Helper()
	return built(t, houseText, people(), "owners", owners, "open", open)
}

// same tells whether two states are alike, empty lists being as none.
func same(a, b api.State) bool {
	return reflect.DeepEqual(fresh.State(a), fresh.State(b))
}

// The section Errors, as far as it speaks of changes; and the limits that are theirs.
func TestErrors(t *testing.T) {
	if api.OK != 0 || api.ErrMany != 2 || api.ErrLong != 3 || api.ErrDepth != 4 || api.ErrSyntax != 5 || api.ErrUtf != 6 || api.ErrType != 7 || api.ErrMissing != 8 || api.ErrUnknown != 9 || api.ErrTwice != 10 || api.ErrOver != 11 || api.ErrCycle != 12 || api.ErrState != 13 || api.ErrForm != 14 {
		t.Error("an error's number is another one")
	}
	if api.MaxChanges != 16 || api.MaxText != 2048 || api.MaxPolicies != 32 || api.MaxEntities != 64 {
		t.Error("a limit is another one")
	}
}

// sized is a text of a number by which texts grow, of which so many bytes are printed; the text itself is no longer than may be.
func sized(t *testing.T, size int, text func(n int) string, printed func(s string) string) string {
	t.Helper()
	for n := range 1400 {
		if s := text(n); len(s) <= api.MaxText && len(printed(s)) == size {
			return s
		}
	}
	t.Fatalf("no text is printed with %d bytes", size)
	return ""
}

// tabs are strings that are printed with n bytes more than they have quotes, as tabs are printed with a stroke.
func tabs(n int) []string {
	l := make([]string, 8)
	for i := range l {
		take := min(n/(len(l)-i), n)
		n -= take
		l[i] = `"` + strings.Repeat("\t", take/2) + strings.Repeat("a", take%2) + `"`
	}
	return l
}

// sizedPolicy is the text of a policy that is printed with so many bytes.
func sizedPolicy(t *testing.T, size int) string {
	return sized(t, size, func(n int) string {
		return "permit(principal,action,resource)unless{[" + strings.Join(tabs(n+700), ",") + "]==[]};"
	}, func(s string) string {
		p, _, _ := policy.Parse(s)
		out, _ := policy.Print(p)
		return out
	})
}

// sizedEntity is the text of an entity that is printed with so many bytes.
func sizedEntity(t *testing.T, size int) string {
	return sized(t, size, func(n int) string {
		l := tabs(n + 700)
		for i := range l {
			l[i] = string(rune('a'+i)) + ":" + l[i]
		}
		return `Text::"t"{` + strings.Join(l, ",") + "};"
	}, func(s string) string {
		e, _, _ := entity.Parse(s)
		out, _ := entity.Print(e)
		return out
	})
}

// textText is the schema of sized entities.
const textText = `entity Text {a: String, b: String, c: String, d: String, e: String, f: String, g: String, h: String};`

// sizedSchema is the text of a schema that is printed with so many bytes.
func sizedSchema(t *testing.T, size int) string {
	attrs := ""
	for i := range 16 {
		attrs += string(rune('a'+i)) + ":Long,"
	}
	attrs = strings.TrimSuffix(attrs, ",")
	whole := ""
	for i := range 10 {
		whole += "entity " + string(rune('A'+i)) + "{" + attrs + "};"
	}
	return sized(t, size, func(n int) string {
		first := min(n, 60)
		return whole + "entity Z{a" + strings.Repeat("a", first) + ":Long,b" + strings.Repeat("b", min(n-first, 60)) + ":Long};"
	}, func(s string) string {
		x, _, _ := schema.Parse(s)
		out, _ := schema.Print(x)
		return out
	})
}

// full is a state with as many entities and policies as may be.
func full(t *testing.T) api.State {
	s := built(t, "entity A in [A] {b: A};", nil)
	for i := range 64 {
		id := strconv.Itoa(100 + i)
		e, _, _ := entity.Parse(`A::"` + id + `" {b: A::"` + strconv.Itoa(163-i) + `"};`)
		s.Entities = append(s.Entities, e)
	}
	for i := range 32 {
		p, _, _ := policy.Parse(`forbid(principal == A::"` + strconv.Itoa(100+i) + `", action, resource);`)
		s.Policies = append(s.Policies, api.Named{Id: strconv.Itoa(100 + i), Policy: p})
	}
	return s
}

// Promise 16.1 of Check, and words: states that are right.
func TestRightStates(t *testing.T) {
	for name, s := range map[string]api.State{
		"nothing": {}, "nothing, made by hand": {Schema: api.Schema{Types: []api.EntityType{}, Actions: []api.Action{}}, Policies: []api.Named{}, Entities: []api.Entity{}},
		"the house": house(t), "full": full(t), "a schema alone": built(t, houseText, nil), "no policies": built(t, houseText, people()), "a policy alone": built(t, "", nil, "p", open), "a policy of nothing": built(t, "", nil, "p", noType),
		"a policy of no request": built(t, houseText, nil, "p", ofNothing), "a policy of 2048 bytes": built(t, houseText, nil, "p", sizedPolicy(t, 2048)), "an entity of 2048 bytes": built(t, textText, []string{sizedEntity(t, 2048)}), "a schema of 2048 bytes": built(t, sizedSchema(t, 2048), nil),
	} {
		if why := change.Check(s); why != api.OK {
			t.Errorf("%s: error %d", name, why)
		}
	}
}

// wrongStates are states that are not right, each for another reason.
func wrongStates(t *testing.T) map[string]api.State {
	out := map[string]api.State{
		"a schema too long": built(t, sizedSchema(t, 2049), nil), "a policy too long": built(t, houseText, nil, "p", sizedPolicy(t, 2049)), "an entity too long": built(t, textText, []string{sizedEntity(t, 2049)}),
		"a policy with no type": built(t, houseText, people(), "a", open, "b", noType), "a policy with no attribute": built(t, houseText, people(), "a", noAge, "b", open), "a policy of nobody": built(t, houseText, people(), "a", noUser), "a policy of no action": built(t, houseText, people(), "a", noAction), "a policy of nobody of nothing": built(t, "", nil, "a", noUser),
		"an entity of no type": built(t, houseText, people(`Nope::"n" {};`)), "an entity with no attributes": built(t, houseText, people(`User::"n" {};`)), "an entity without a boss": built(t, houseText, people(user("c", "g", "none"))), "an entity in no group": built(t, houseText, people(user("c", "none", "a"))), "an entity in nothing that may be": built(t, houseText, people(`Group::"n" in [User::"a"] {};`)), "an action": built(t, houseText, people(`Action::"view" {};`)), "an entity of no schema": built(t, "", []string{`User::"a" {};`}),
	}
	for name, spoil := range map[string]func(s *api.State){
		"a schema with no name": func(s *api.State) { s.Schema.Types[0].Name = "" }, "a type that is twice": func(s *api.State) { s.Schema.Types = append(s.Schema.Types, s.Schema.Types[0]) }, "parents not in order": func(s *api.State) { s.Schema.Types[0].Parents = []string{"User", "Group"} }, "a type of nothing": func(s *api.State) { s.Schema.Types[0].Attrs[0].Type = api.Type{} },
		"policies not in order": func(s *api.State) { slices.Reverse(s.Policies) }, "a policy that is twice": func(s *api.State) { s.Policies[1].Id = s.Policies[0].Id }, "a policy without Id": func(s *api.State) { s.Policies[0].Id = "" }, "a policy that is none": func(s *api.State) { s.Policies[0].Policy.Resource = api.Scope{Kind: api.ScopeIs} }, "a condition that is none": func(s *api.State) { s.Policies[1].Policy.Conds = make([]api.Cond, 1) },
		"entities not in order": func(s *api.State) { slices.Reverse(s.Entities) }, "an entity that is twice": func(s *api.State) { s.Entities = slices.Insert(s.Entities, 1, s.Entities[0]) }, "an entity without a type": func(s *api.State) { s.Entities[0].Uid.Type = "" }, "attributes that are none": func(s *api.State) { s.Entities[1].Attrs = api.Value{} }, "somebody above themselves": func(s *api.State) { s.Entities[1].Parents = []api.Uid{s.Entities[2].Uid} },
		"33 policies": func(s *api.State) { *s = full(t); s.Policies = append(s.Policies, api.Named{Id: "z"}) }, "65 entities": func(s *api.State) {
			*s = full(t)
			e := s.Entities[0]
			e.Uid.Id = "z"
			s.Entities = append(s.Entities, e)
		},
	} {
		s := house(t)
		spoil(&s)
		out[name] = s
	}
	// As a value the set is right, but as a text it has too many nodes.
	s := built(t, "entity A {a: Set<Long>, b: Set<Long>, c: Set<Long>, d: Set<Long>, e: Set<Long>};", nil)
	e := api.Entity{Uid: api.Uid{Type: "A", Id: "a"}, Attrs: api.Value{Kind: api.KindRecord}}
	for i := range 5 {
		part := api.Value{Kind: api.KindSet}
		for n := range 14 {
			part.List = append(part.List, api.Value{Kind: api.KindLong, N: int64(n) - 14})
		}
		e.Attrs.Names, e.Attrs.List = append(e.Attrs.Names, string(rune('a'+i))), append(e.Attrs.List, part)
	}
	s.Entities = []api.Entity{e}
	out["an entity with too many signs"] = s
	return out
}

// Promise 16.1, and P2: a state that is not right is ErrState, by all calls of one, ahead of all else, and nothing is answered beside it.
func TestWrongStates(t *testing.T) {
	lists := [][]api.Change{nil, {forget("none")}, {{}}, make([]api.Change, 17), {schemaIs("")}}
	for name, s := range wrongStates(t) {
		if why := change.Check(s); why != api.ErrState {
			t.Errorf("Check, %s: error %d", name, why)
		}
		if l, why := change.Make(s); why != api.ErrState || l != nil {
			t.Errorf("Make, %s: %v, error %d", name, l, why)
		}
		for i, l := range lists {
			if behind, why, place := change.Apply(s, l); why != api.ErrState || place != 0 || !reflect.DeepEqual(behind, api.State{}) {
				t.Errorf("Apply of list %d, %s: %v, error %d at %d", i, name, behind, why, place)
			}
		}
	}
}

// trial is changes that are done to the house, and what is answered.
type trial struct {
	l     []api.Change
	want  api.Errno
	place int
}

// try holds Apply to trials.
func try(t *testing.T, s api.State, trials map[string]trial) {
	t.Helper()
	for name, c := range trials {
		behind, why, place := change.Apply(s, c.l)
		if why != c.want || place != c.place {
			t.Errorf("%s: error %d at %d, not %d at %d", name, why, place, c.want, c.place)
		}
		if why != api.OK && !reflect.DeepEqual(behind, api.State{}) {
			t.Errorf("%s: %v beside error %d", name, behind, why)
		}
		if why == api.OK && change.Check(behind) != api.OK {
			t.Errorf("%s: the state is not right", name)
		}
	}
}

// list is any many changes.
func list(l ...api.Change) []api.Change { return l }

// Promise 16.1 of Apply, and words: changes of each kind, and what is there behind them.
func TestApply(t *testing.T) {
	s := house(t)
	newer := strings.Replace(houseText, "{owner: User,", "{age: Long, owner: User,", 1)
	for name, c := range map[string]struct {
		l    []api.Change
		want api.State
	}{
		"nothing":                       {nil, s},
		"a policy":                      {list(policyIs("p", ofNothing)), built(t, houseText, people(), "open", open, "owners", owners, "p", ofNothing)},
		"a policy in another's place":   {list(policyIs("open", owners)), built(t, houseText, people(), "open", owners, "owners", owners)},
		"a policy anew":                 {list(policyIs("open", ofNothing), policyIs("open", open)), s},
		"a policy no more":              {list(forget("open")), built(t, houseText, people(), "owners", owners)},
		"no policies":                   {list(forget("owners"), forget("open")), built(t, houseText, people())},
		"there and gone":                {list(policyIs("p", open), forget("p")), s},
		"gone and there":                {list(forget("open"), policyIs("open", open)), s},
		"an entity":                     {list(entityIs(user("c", "g", "a"))), built(t, houseText, people(user("c", "g", "a")), "open", open, "owners", owners)},
		"an entity in another's place":  {list(entityIs(user("a", "g", "a"))), built(t, houseText, append(people()[:2], people(user("a", "g", "a"))[3:]...), "open", open, "owners", owners)},
		"an entity no more":             {list(drop("Doc", "d")), built(t, houseText, people()[:4], "open", open, "owners", owners)},
		"entities there and gone":       {list(entityIs(user("c", "g", "c")), drop("User", "c")), s},
		"entities gone and there":       {list(drop("Doc", "d"), entityIs(people()[4])), s},
		"its own boss":                  {list(entityIs(user("c", "g", "c"))), built(t, houseText, people(user("c", "g", "c")), "open", open, "owners", owners)},
		"another schema":                {list(schemaIs(newer), entityIs(`Doc::"d" {owner: User::"a", tags: [], age: 1};`)), built(t, newer, append(people()[:4], `Doc::"d" {owner: User::"a", tags: [], age: 1};`), "open", open, "owners", owners)},
		"another schema, and the first": {list(schemaIs(newer), schemaIs(houseText)), s},
		"nothing left":                  {list(forget("open"), forget("owners"), drop("Doc", "d"), drop("User", "a"), drop("User", "b"), drop("Group", "h"), drop("Group", "g"), schemaIs("")), api.State{}},
		"a boss who comes later":        {list(entityIs(user("c", "i", "e")), entityIs(`Group::"i" {};`), entityIs(user("e", "i", "c"))), built(t, houseText, people(user("c", "i", "e"), `Group::"i" {};`, user("e", "i", "c")), "open", open, "owners", owners)},
		"a policy of who comes later":   {list(policyIs("p", `permit(principal == User::"c", action, resource);`), entityIs(user("c", "g", "c"))), built(t, houseText, people(user("c", "g", "c")), "open", open, "owners", owners, "p", `permit(principal == User::"c", action, resource);`)},
		"wrong, and then gone":          {list(policyIs("p", noType), entityIs(`User::"x" {};`), forget("p"), drop("User", "x")), s},
		"wrong, and then right":         {list(policyIs("open", noUser), entityIs(`Group::"g" {x: 1};`), entityIs(`Group::"g" {};`), policyIs("open", open)), s},
		"16 changes":                    {slices.Repeat(list(policyIs("open", open)), 16), s},
	} {
		behind, why, n := change.Apply(s, c.l)
		if why != api.OK || n != len(c.l) || !same(behind, c.want) {
			t.Errorf("%s: %v, error %d at %d", name, behind, why, n)
		}
		if change.Check(behind) != api.OK {
			t.Errorf("%s: the state is not right", name)
		}
	}
}

// Promise 16.1 of Apply: what is done to nothing.
func TestApplyToNothing(t *testing.T) {
	var l []api.Change
	for _, s := range people() {
		l = append(l, entityIs(s))
	}
	l = append(l, schemaIs(houseText), policyIs("open", open), policyIs("owners", owners))
	if s, why, n := change.Apply(api.State{}, l); why != api.OK || n != 8 || !same(s, house(t)) {
		t.Errorf("%v, error %d at %d", s, why, n)
	}
	if s, why, n := change.Apply(api.State{}, nil); why != api.OK || n != 0 || !same(s, api.State{}) {
		t.Errorf("%v, error %d at %d", s, why, n)
	}
}

// badKinds are changes that are not right.
func badKinds() []api.Change {
	l := []api.Change{{}, {Id: "open"}, {Kind: api.ChangeCount}, {Kind: api.ChangeCount + 1, Text: houseText}, {Kind: 255}}
	for _, c := range []api.Change{schemaIs(houseText), policyIs("p", open), forget("open"), entityIs(`Group::"g" {};`), drop("Doc", "d")} {
		id, text, kind, uid := c, c, c, c
		id.Id, text.Text, kind.Uid.Type, uid.Uid.Id = "x", "x", "x", "x"
		switch c.Kind {
		case api.ChangeSchema, api.ChangeEntity:
			l = append(l, id, kind, uid)
		case api.ChangePolicy:
			l = append(l, kind, uid)
		case api.ChangeForget:
			l = append(l, text, kind, uid)
		case api.ChangeDrop:
			l = append(l, id, text)
		}
	}
	return l
}

// Promise 16.1 of Apply: too many changes, then changes that are not right, then what they do.
func TestChangesThatAreNotRight(t *testing.T) {
	s := house(t)
	fails, fine := forget("none"), policyIs("p", open)
	for i, bad := range badKinds() {
		try(t, s, map[string]trial{
			fmt.Sprintf("%d alone: %v", i, bad): {list(bad), api.ErrSyntax, 0}, fmt.Sprintf("%d behind one: %v", i, bad): {list(fine, bad), api.ErrSyntax, 1}, fmt.Sprintf("%d behind one that fails: %v", i, bad): {list(fails, fine, bad, api.Change{}), api.ErrSyntax, 2},
		})
	}
	try(t, s, map[string]trial{
		"17": {slices.Repeat(list(fine), 17), api.ErrMany, 0}, "17 that fail": {slices.Repeat(list(fails), 17), api.ErrMany, 0}, "17 that are not right": {make([]api.Change, 17), api.ErrMany, 0}, "1000": {slices.Repeat(list(fine), 1000), api.ErrMany, 0},
		"16 that are not right": {make([]api.Change, 16), api.ErrSyntax, 0}, "the last one of 16": {append(slices.Repeat(list(fine), 15), api.Change{}), api.ErrSyntax, 15}, "the last one of 16 that fail": {append(slices.Repeat(list(fails), 15), api.Change{Kind: 6}), api.ErrSyntax, 15},
	})
}

// Promise 16.1 of Apply, and words: changes that may not be done, by kind; the first one's error, and its place.
func TestErrorsOfDoing(t *testing.T) {
	long, fine := strings.Repeat("i", 65), policyIs("p", open)
	try(t, house(t), map[string]trial{
		"schema: a text that is none": {list(schemaIs(`entity`)), api.ErrSyntax, 0}, "schema: bytes": {list(schemaIs("\xff")), api.ErrSyntax, 0}, "schema: no UTF-8": {list(schemaIs("action \"\xff\" appliesTo {principal: [], resource: [], context: {}};")), api.ErrUtf, 0}, "schema: a type that is none": {list(schemaIs(`entity A in [B] {};`)), api.ErrUnknown, 0}, "schema: twice": {list(schemaIs(`entity A {}; entity A {};`)), api.ErrTwice, 0}, "schema: too long": {list(schemaIs(houseText + strings.Repeat(" ", 2048))), api.ErrLong, 0}, "schema: too many": {list(schemaIs(strings.Repeat("entity A {};", 17))), api.ErrMany, 0}, "schema: too deep": {list(schemaIs(`entity A {a: Set<Set<Set<Set<Set<Set<Set<Set<Long>>>>>>>>};`)), api.ErrDepth, 0}, "schema: may not be kept": {list(schemaIs(sizedSchema(t, 2049))), api.ErrLong, 0}, "schema: may just be kept, but the others do not fit": {list(schemaIs(sizedSchema(t, 2048))), api.ErrUnknown, 1},
		"policy: a text that is none": {list(policyIs("p", `permit(principal);`)), api.ErrSyntax, 0}, "policy: nothing": {list(policyIs("p", ``)), api.ErrSyntax, 0}, "policy: too deep": {list(policyIs("p", `permit(principal, action, resource) when { `+strings.Repeat("!", 16)+` true };`)), api.ErrDepth, 0}, "policy: too many": {list(policyIs("p", `permit(principal, action, resource)`+strings.Repeat("when {true}", 17)+`;`)), api.ErrMany, 0}, "policy: too long": {list(policyIs("p", open+strings.Repeat(" ", 2048))), api.ErrLong, 0}, "policy: may not be kept": {list(policyIs("p", sizedPolicy(t, 2049))), api.ErrLong, 0}, "policy: may just be kept": {list(policyIs("p", sizedPolicy(t, 2048))), api.OK, 1},
		"policy: no Id": {list(policyIs("", open)), api.ErrLong, 0}, "policy: an Id too long": {list(policyIs(long, open)), api.ErrLong, 0}, "policy: an Id of 64": {list(policyIs(long[1:], open)), api.OK, 1}, "policy: no UTF-8": {list(policyIs("\xff", open)), api.ErrUtf, 0}, "policy: no Id, and no text": {list(policyIs("", "")), api.ErrSyntax, 0}, "policy: no UTF-8, and too long": {list(policyIs("\xff", sizedPolicy(t, 2049))), api.ErrLong, 0}, "policy: that does not fit, and no UTF-8": {list(policyIs("\xff", noType)), api.ErrUtf, 0},
		"forget: nobody": {list(forget("none")), api.ErrUnknown, 0}, "forget: no Id": {list(forget("")), api.ErrUnknown, 0}, "forget: bytes": {list(forget("\xff")), api.ErrUnknown, 0}, "forget: twice": {list(forget("open"), forget("open")), api.ErrUnknown, 1}, "forget: ahead of its being put": {list(forget("p"), fine), api.ErrUnknown, 0},
		"entity: a text that is none": {list(entityIs(`Group::"i"`)), api.ErrSyntax, 0}, "entity: no type's name": {list(entityIs(`in::"i" {};`)), api.ErrSyntax, 0}, "entity: no constant": {list(entityIs(`Group::"i" {a: 1 + 1};`)), api.ErrType, 0}, "entity: too great": {list(entityIs(`Group::"i" {a: -9223372036854775807 - 2};`)), api.ErrOver, 0}, "entity: a parent twice": {list(entityIs(`Group::"i" in [Group::"g", Group::"g"] {};`)), api.ErrTwice, 0}, "entity: above itself": {list(entityIs(`Group::"i" in [Group::"i"] {};`)), api.ErrCycle, 0}, "entity: above itself, by another": {list(entityIs(`Group::"g" in [Group::"h"] {};`)), api.ErrCycle, 0}, "entity: an id too long": {list(entityIs(`Group::"` + long + `" {};`)), api.ErrLong, 0}, "entity: too long": {list(entityIs(`Group::"i" {};` + strings.Repeat(" ", 2048))), api.ErrLong, 0}, "entity: may not be kept": {list(entityIs(sizedEntity(t, 2049))), api.ErrLong, 0}, "entity: may just be kept, but does not fit": {list(entityIs(sizedEntity(t, 2048))), api.ErrUnknown, 0}, "entity: above itself later": {list(entityIs(`Group::"i" in [Group::"h"] {};`), entityIs(`Group::"g" in [Group::"i"] {};`)), api.ErrCycle, 1}, "entity: not above itself any more": {list(entityIs(`Group::"h" {};`), entityIs(`Group::"g" in [Group::"h"] {};`)), api.OK, 2},
		"drop: nobody": {list(drop("User", "none")), api.ErrUnknown, 0}, "drop: no type": {list(drop("", "")), api.ErrUnknown, 0}, "drop: an action": {list(drop("Action", "view")), api.ErrUnknown, 0}, "drop: bytes": {list(drop("User", "\xff")), api.ErrUnknown, 0}, "drop: twice": {list(drop("Doc", "d"), drop("Doc", "d")), api.ErrUnknown, 1},
		"the second one": {list(fine, forget("none"), entityIs("")), api.ErrUnknown, 1}, "the third one": {list(fine, fine, entityIs(""), forget("none")), api.ErrSyntax, 2}, "behind one that does not fit": {list(policyIs("p", noType), forget("none")), api.ErrUnknown, 1}, "the last one of 16": {append(slices.Repeat(list(fine), 15), forget("none")), api.ErrUnknown, 15},
	})
	try(t, full(t), map[string]trial{
		"33 policies": {list(policyIs("p", open)), api.ErrMany, 0}, "33 policies, and no Id": {list(policyIs("", open)), api.ErrMany, 0}, "33 policies, and one gone": {list(policyIs("p", open), forget("100")), api.ErrMany, 0}, "one gone, and 32": {list(forget("100"), policyIs("p", open)), api.OK, 2}, "one of 32 anew": {list(policyIs("131", open)), api.OK, 1}, "33, and too long": {list(policyIs("p", sizedPolicy(t, 2049))), api.ErrLong, 0},
		"65 entities": {list(entityIs(`A::"z" {b: A::"z"};`)), api.ErrMany, 0}, "one of 64 anew": {list(entityIs(`A::"163" in [A::"100"] {b: A::"163"};`)), api.OK, 1}, "65, and one gone": {list(entityIs(`A::"z" {b: A::"z"};`), drop("A", "163")), api.ErrMany, 0}, "one gone, and 64": {list(drop("A", "163"), entityIs(`A::"z" {b: A::"z"};`), entityIs(`A::"100" {b: A::"z"};`)), api.OK, 3}, "65, and above themselves": {list(entityIs(`A::"99" in [A::"99"] {b: A::"z"};`)), api.ErrCycle, 0},
	})
}

// Promise 16.1 of Apply, words, and example 1: whether all fits is told change by change, then of all entities, then of all policies.
func TestErrorsOfFitting(t *testing.T) {
	noBoss, odd, strange := user("c", "g", "none"), `User::"c" {};`, `Nope::"n" {};`
	far := strings.Replace(houseText, "{far: Bool}", "{}", 1)
	others := strings.Replace(houseText, "boss: User}", "boss: User, more: Bool}", 1)
	noGroups := strings.ReplaceAll(strings.Replace(strings.Replace(houseText, "entity Group in [Group] {};", "", 1), "Group, ", "", 1), " in [Group]", "")
	reads := policyIs("r", `permit(principal, action == Action::"view", resource) when { context.far };`)
	try(t, house(t), map[string]trial{
		"a boss who is put later": {list(entityIs(user("c", "g", "e")), entityIs(user("e", "g", "c"))), api.OK, 2}, "a boss who is dropped": {list(drop("User", "b")), api.ErrMissing, 1}, "a boss who is dropped, and put": {list(drop("User", "b"), entityIs(user("b", "g", "b"))), api.OK, 2}, "a boss who is dropped behind": {list(entityIs(user("c", "g", "b")), drop("User", "b")), api.ErrMissing, 0}, "a group that is dropped": {list(policyIs("p", open), drop("Group", "g")), api.ErrMissing, 2},
		"an entity without a boss": {list(entityIs(noBoss)), api.ErrMissing, 0}, "an entity of no type": {list(entityIs(strange)), api.ErrUnknown, 0}, "an entity without attributes": {list(entityIs(odd)), api.ErrType, 0}, "an action": {list(entityIs(`Action::"view" {};`)), api.ErrUnknown, 0}, "the second one": {list(policyIs("p", open), entityIs(`User::"x" {};`), entityIs(noBoss)), api.ErrType, 1}, "the third one": {list(forget("open"), drop("Doc", "d"), entityIs(noBoss), entityIs(`User::"x" {};`)), api.ErrMissing, 2},
		"a policy with no type": {list(policyIs("p", noType)), api.ErrType, 0}, "a policy with no attribute": {list(policyIs("p", noAge)), api.ErrMissing, 0}, "a policy of nobody": {list(policyIs("p", noUser)), api.ErrMissing, 0}, "a policy of no type that is there": {list(policyIs("p", `permit(principal in Nope::"n", action, resource);`)), api.ErrUnknown, 0}, "the second policy": {list(entityIs(user("c", "g", "c")), policyIs("p", noAction), policyIs("q", noType)), api.ErrUnknown, 1},
		"a policy ahead of an entity": {list(policyIs("z", noType), entityIs(strange)), api.ErrType, 0}, "an entity ahead of a policy": {list(entityIs(strange), policyIs("a", noType)), api.ErrUnknown, 0}, "by place, not by name": {list(policyIs("z", noType), policyIs("a", noUser)), api.ErrType, 0}, "by place, not by Uid": {list(entityIs(`Nope::"n" {};`), entityIs(`Group::"a" {x: 1};`)), api.ErrUnknown, 0},
		"a policy that is gone": {list(policyIs("p", noType), forget("p")), api.OK, 2}, "a policy that is another one then": {list(policyIs("p", noType), policyIs("p", open)), api.OK, 2}, "a policy that was another one": {list(policyIs("p", open), policyIs("p", noType)), api.ErrType, 0}, "a policy that was another one, apart": {list(policyIs("q", open), policyIs("p", open), forget("p"), policyIs("p", noUser)), api.ErrMissing, 1}, "a policy there again": {list(policyIs("p", noUser), forget("p"), policyIs("p", noType)), api.ErrType, 0},
		"an entity that is gone": {list(entityIs(strange), drop("Nope", "n")), api.OK, 2}, "an entity that is another one then": {list(entityIs(odd), entityIs(user("c", "g", "c"))), api.OK, 2}, "an entity that was another one": {list(entityIs(user("c", "g", "c")), entityIs(odd)), api.ErrType, 0}, "an entity there again": {list(entityIs(odd), drop("User", "c"), entityIs(noBoss)), api.ErrMissing, 0},
		"changes ahead of all others": {list(drop("User", "b"), policyIs("p", noType)), api.ErrType, 1}, "changed entities ahead of all others": {list(drop("User", "b"), entityIs(strange)), api.ErrUnknown, 1}, "all others behind": {list(drop("User", "b"), policyIs("p", ofNothing)), api.ErrMissing, 2},
		"entities ahead of policies": {list(schemaIs(`entity Group {};`)), api.ErrUnknown, 1}, "the first entity": {list(schemaIs(noGroups)), api.ErrUnknown, 1}, "entities with other attributes": {list(schemaIs(others)), api.ErrType, 1}, "entities that fit again": {list(schemaIs(others), drop("Doc", "d"), drop("User", "a"), drop("User", "b"), forget("owners")), api.OK, 5}, "policies of who is gone": {list(drop("Doc", "d"), drop("User", "a")), api.ErrMissing, 2}, "policies alone": {list(reads, schemaIs(far)), api.ErrMissing, 0}, "a policy forgotten": {list(reads, schemaIs(far), forget("r")), api.OK, 3},
	})
	s := built(t, houseText, people(), "a", `permit(principal == User::"a", action, resource);`, "b", `permit(principal, action == Action::"view", resource) when { context.far };`, "c", `permit(principal, action == Action::"view", resource) when { [context] == [{far: true}] };`)
	number := strings.Replace(houseText, "{far: Bool}", "{far: Long}", 1)
	try(t, s, map[string]trial{
		"policies behind entities": {list(schemaIs(far), drop("Group", "g")), api.ErrMissing, 2}, "the first policy": {list(schemaIs(far)), api.ErrMissing, 1}, "another first policy": {list(schemaIs(number)), api.ErrType, 1}, "the second policy": {list(schemaIs(number), drop("User", "a"), entityIs(`Doc::"d" {owner: User::"b", tags: []};`)), api.ErrMissing, 3}, "in order": {list(schemaIs(number), forget("a"), policyIs("d", noUser)), api.ErrMissing, 2}, "in order, by name": {list(schemaIs(number), forget("b"), forget("c")), api.OK, 3},
	})
}

// Promise 16.2 of Make: the schema, each entity, each policy, in order, with their texts.
func TestMake(t *testing.T) {
	s := house(t)
	text := func(s string, why api.Errno) string {
		if why != api.OK {
			t.Fatalf("error %d", why)
		}
		return s
	}
	var entities []api.Change
	for _, e := range s.Entities {
		entities = append(entities, entityIs(text(entity.Print(e))))
	}
	whole := append(list(schemaIs(text(schema.Print(s.Schema)))), entities...)
	for _, n := range s.Policies {
		whole = append(whole, policyIs(n.Id, text(policy.Print(n.Policy))))
	}
	if len(whole) != 8 || whole[1] != entityIs(`Doc::"d" in [] {owner: User::"a", tags: ["x"]};`) || whole[6] != policyIs("open", `permit (principal, action, resource);`) {
		t.Fatalf("%v", whole)
	}
	types, actions := built(t, `entity A {};`, nil), built(t, `action "a" appliesTo {principal: [], resource: [], context: {}};`, nil)
	for name, c := range map[string]struct {
		s    api.State
		want []api.Change
	}{
		"nothing": {api.State{}, nil}, "the house": {s, whole}, "types alone": {types, list(schemaIs("entity A in [] {};\n"))}, "actions alone": {actions, list(schemaIs("action \"a\" appliesTo {principal: [], resource: [], context: {}};\n"))}, "a policy alone": {built(t, "", nil, "p", open), list(policyIs("p", `permit (principal, action, resource);`))}, "no policies": {api.State{Schema: s.Schema, Entities: s.Entities}, whole[:6]},
	} {
		if l, why := change.Make(c.s); why != api.OK || !slices.Equal(l, c.want) {
			t.Errorf("%s: %v, error %d", name, l, why)
		}
	}
	if l, why := change.Make(full(t)); why != api.OK || len(l) != 97 || l[0].Kind != api.ChangeSchema || l[1].Kind != api.ChangeEntity || l[64].Kind != api.ChangeEntity || l[65] != policyIs("100", `forbid (principal == A::"100", action, resource);`) || l[96].Id != "131" {
		t.Errorf("full: %v, error %d", l, why)
	}
}

// Promise 16.6: what Make answers, done to nothing some at a time or all at once, makes the state.
func TestMadeAgain(t *testing.T) {
	for name, s := range map[string]api.State{"nothing": {}, "the house": house(t), "full": full(t), "a policy alone": built(t, "", nil, "p", open), "texts of 2048 bytes": built(t, textText, []string{sizedEntity(t, 2048)}, "p", sizedPolicy(t, 2048)), "a schema of 2048 bytes": built(t, sizedSchema(t, 2048), nil)} {
		l, _ := change.Make(s)
		for _, some := range []int{1, 2, 7, 16, 97} {
			var done api.State
			for part := range slices.Chunk(l, some) {
				var why api.Errno
				var n int
				if done, why, n = change.Do(done, part); why != api.OK || n != len(part) {
					t.Fatalf("%s, %d at a time: error %d at %d", name, some, why, n)
				}
			}
			if !same(done, s) || change.Check(done) != api.OK {
				t.Errorf("%s, %d at a time: %v", name, some, done)
			}
		}
		if len(l) > 16 {
			continue
		}
		if done, why, n := change.Apply(api.State{}, l); why != api.OK || n != len(l) || !same(done, s) {
			t.Errorf("%s, by Apply: %v, error %d at %d", name, done, why, n)
		}
	}
	// Where nobody hangs on who comes later, parts of it fit by themselves.
	s := built(t, houseText, []string{`Group::"a" {};`, `Group::"b" in [Group::"a"] {};`, `Group::"c" in [Group::"a", Group::"b"] {};`, user("a", "a", "a"), user("b", "c", "a")}, "p", open, "q", owners)
	l, _ := change.Make(s)
	for some := range len(l) {
		var done api.State
		for part := range slices.Chunk(l, some+1) {
			done, _, _ = change.Apply(done, part)
		}
		if !same(done, s) {
			t.Errorf("%d at a time, by Apply: %v", some+1, done)
		}
	}
}

// Do is as Apply, but for how many changes there are, and for what fits.
func TestDo(t *testing.T) {
	s := house(t)
	for name, c := range map[string]trial{
		"none": {nil, api.OK, 0}, "what does not fit": {list(policyIs("p", noType), drop("User", "b")), api.OK, 2}, "97": {slices.Repeat(list(policyIs("p", open)), 97), api.OK, 97}, "not right": {list(forget("none"), api.Change{}), api.ErrSyntax, 1}, "that may not be done": {list(policyIs("p", open), forget("none")), api.ErrUnknown, 1}, "the last one of 97": {append(slices.Repeat(list(policyIs("p", open)), 96), forget("q")), api.ErrUnknown, 96},
	} {
		behind, why, place := change.Do(s, c.l)
		if why != c.want || place != c.place || why != api.OK && !reflect.DeepEqual(behind, api.State{}) {
			t.Errorf("%s: %v, error %d at %d", name, behind, why, place)
		}
	}
}

// spoil writes over all that lists of a value have, wherever they are.
func spoil(v reflect.Value) {
	switch v.Kind() {
	case reflect.Struct:
		for i := range v.NumField() {
			spoil(v.Field(i))
		}
	case reflect.Slice:
		for i := range v.Len() {
			spoil(v.Index(i))
			v.Index(i).SetZero()
		}
	}
}

// shared tells whether two lists within a value share memory, the room behind them with it.
func shared(v reflect.Value) bool {
	seen := map[uintptr]int{}
	var walk func(v reflect.Value)
	walk = func(v reflect.Value) {
		switch v.Kind() {
		case reflect.Struct:
			for i := range v.NumField() {
				walk(v.Field(i))
			}
		case reflect.Slice:
			for i := range v.Cap() {
				seen[v.Pointer()+uintptr(i)*v.Type().Elem().Size()]++
			}
			for i := range v.Len() {
				walk(v.Index(i))
			}
		}
	}
	walk(v)
	for _, n := range seen {
		if n > 1 {
			return true
		}
	}
	return false
}

// Promise 16.3, and P3: answers are new memory, of changes of each kind, and of none; asked again they are the same; what is handed in is neither changed nor kept.
func TestNewMemory(t *testing.T) {
	lists := map[string][]api.Change{"none": nil, "a schema": list(schemaIs(houseText)), "a policy": list(policyIs("p", owners)), "a policy gone": list(forget("open")), "an entity": list(entityIs(user("c", "g", "a"))), "an entity gone": list(drop("Doc", "d")), "all": list(policyIs("p", owners), entityIs(user("c", "g", "a")), drop("Doc", "d"), schemaIs(houseText), forget("open"))}
	for name, l := range lists {
		s, handed := house(t), slices.Clone(l)
		// The policies share their memory, and there is room behind them.
		s.Policies = append(make([]api.Named, 0, 8), s.Policies...)
		s.Policies[0].Policy = s.Policies[1].Policy
		before := fresh.State(s)
		for which, call := range map[string]func() api.State{"Apply": func() api.State { out, _, _ := change.Apply(s, handed); return out }, "Do": func() api.State { out, _, _ := change.Do(s, handed); return out }} {
			one, two := call(), call()
			if len(one.Entities) == 0 || !reflect.DeepEqual(one, two) {
				t.Fatalf("%s of %s: %v, %v", which, name, one, two)
			}
			if shared(reflect.ValueOf(one)) {
				t.Errorf("%s of %s: two lists of the answer share memory", which, name)
			}
			spoil(reflect.ValueOf(&one).Elem())
			if three := call(); !reflect.DeepEqual(two, three) || !reflect.DeepEqual(fresh.State(s), before) || !slices.Equal(handed, l) || s.Policies[:3][2].Id != "" {
				t.Errorf("%s of %s: an answer shares memory, or what was handed in is changed", which, name)
			}
		}
		behind, _, _ := change.Apply(s, handed)
		again := fresh.State(behind)
		spoil(reflect.ValueOf(&s).Elem())
		spoil(reflect.ValueOf(handed))
		if !reflect.DeepEqual(behind, again) {
			t.Errorf("%s: what was handed in is kept", name)
		}
	}
	s := house(t)
	one, _ := change.Make(s)
	two, _ := change.Make(s)
	spoil(reflect.ValueOf(one))
	if three, _ := change.Make(s); !slices.Equal(two, three) || !same(s, house(t)) {
		t.Error("Make: an answer shares memory, or what was handed in is changed")
	}
}

// P4.
func TestNoGoroutineIsLeft(t *testing.T) {
	before := runtime.NumGoroutine()
	s := house(t)
	for range 10 {
		change.Check(s)
		change.Apply(s, list(policyIs("p", noAge), entityIs(user("c", "g", "none"))))
		l, _ := change.Make(s)
		bytes, _ := change.Pack(l)
		change.Unpack(bytes)
	}
	if after := runtime.NumGoroutine(); after > before {
		t.Errorf("%d goroutines, before %d", after, before)
	}
}
