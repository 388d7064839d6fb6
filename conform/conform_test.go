package conform_test

import (
	"reflect"
	"runtime"
	"slices"
	"strings"
	"testing"

	"lictor/api"
	"lictor/conform"
	"lictor/entity"
	"lictor/expr"
	"lictor/policy"
	"lictor/schema"
)

// houseText is the schema of most tests.
const houseText = `entity User in [Group, User] {age: Long, boss: User, tags: Set<String>, r: {last: Action, circle: Set<User>}};
	entity Group in [Group] {};
	entity Doc in [Dir] {owner: User, public: Bool, age: String};
	entity Dir {};
	entity Bot in [Group] {};
	action "view" appliesTo {principal: [User, Bot], resource: [Doc], context: {ip: String, who: Set<User>}};
	action "edit" appliesTo {principal: [User], resource: [Dir, Doc], context: {n: Long, by: {act: Action}}};
	action "none" appliesTo {principal: [], resource: [Doc], context: {}};`

// parsedSchema is the schema of a text.
func parsedSchema(t *testing.T, s string) api.Schema {
	t.Helper()
	x, why, place := schema.Parse(s)
	if why != api.OK {
		t.Fatalf("%q: error %d at %d", s, why, place)
	}
	return x
}

// parsed is the entity of a text.
func parsed(t *testing.T, s string) api.Entity {
	t.Helper()
	e, why, place := entity.Parse(s)
	if why != api.OK {
		t.Fatalf("%q: error %d at %d", s, why, place)
	}
	return e
}

// row is the entities of texts, in order.
func row(t *testing.T, l ...string) []api.Entity {
	t.Helper()
	var out []api.Entity
	for _, s := range l {
		var why api.Errno
		if out, why = entity.Put(out, parsed(t, s)); why != api.OK {
			t.Fatalf("%q: error %d", s, why)
		}
	}
	return out
}

// user is the text of a user who fits, with other attributes in the place of some.
func user(id, parents string, others ...string) string {
	attrs := []string{"age: 3", `boss: User::"b"`, `tags: ["x"]`, `r: {last: Action::"view", circle: []}`}
	for _, other := range others {
		name, _, _ := strings.Cut(other, ":")
		i := slices.IndexFunc(attrs, func(s string) bool { return strings.HasPrefix(s, name+":") })
		if i < 0 {
			attrs = append(attrs, other)
		} else {
			attrs[i] = other
		}
	}
	attrs = slices.DeleteFunc(attrs, func(s string) bool { return strings.HasSuffix(s, ":") })
	return `User::"` + id + `" in [` + parents + `] {` + strings.Join(attrs, ", ") + `};`
}

// people are the entities of most tests, all of whom fit, and others.
func people(t *testing.T, others ...string) []api.Entity {
	t.Helper()
	l := []string{`Group::"g" {};`, `Group::"h" in [Group::"g"] {};`, user("a", `Group::"h", User::"b"`), user("b", ""), `Doc::"d" in [Dir::"e"] {owner: User::"a", public: true, age: "old"};`, `Dir::"e" {};`, `Bot::"r" {};`}
	return row(t, append(l, others...)...)
}

// ghost is an entity that is no action, though it is named like one; rows may have it, and no schema.
const ghost = `Action::"ghost" {};`

// again is the same value in memory of its own.
func again(v api.Value) api.Value {
	v.Names, v.List = slices.Clone(v.Names), slices.Clone(v.List)
	for i := range v.List {
		v.List[i] = again(v.List[i])
	}
	return v
}

// The section Errors, as far as it speaks of what fits.
func TestErrors(t *testing.T) {
	if api.OK != 0 || api.ErrMany != 2 || api.ErrLong != 3 || api.ErrDepth != 4 || api.ErrSyntax != 5 || api.ErrUtf != 6 || api.ErrType != 7 || api.ErrMissing != 8 || api.ErrUnknown != 9 || api.ErrTwice != 10 || api.ErrCycle != 12 {
		t.Error("an error's number is another one")
	}
}

// Promise 14.1 of Entity, and words: entities that fit, and that do not.
func TestEntity(t *testing.T) {
	x, l := parsedSchema(t, houseText), people(t, ghost)
	for _, c := range []struct {
		s    string
		want api.Errno
	}{
		{user("a", ""), api.OK}, {user("new", ""), api.OK}, {user("new", `Group::"g"`), api.OK}, {user("new", `Group::"g", Group::"h", User::"a"`), api.OK}, {`Group::"new" {};`, api.OK}, {`Dir::"e" {};`, api.OK}, {`Doc::"new" {owner: User::"b", public: false, age: ""};`, api.OK}, {user("", ""), api.OK},
		{`Nope::"a" {};`, api.ErrUnknown}, {`Action::"view" {};`, api.ErrUnknown}, {`Action::"new" {};`, api.ErrUnknown}, {ghost, api.ErrUnknown}, {`user::"a" {};`, api.ErrUnknown}, {`User::X::"a" {};`, api.ErrUnknown}, {`Nope::"a" in [Nope::"b"] {x: Nope::"c"};`, api.ErrUnknown}, {`String::"a" {};`, api.ErrUnknown},
		{user("new", `Dir::"e"`), api.ErrType}, {user("new", `Dir::"none"`), api.ErrType}, {user("new", `Group::"g", Nope::"n"`), api.ErrType}, {`Group::"new" in [User::"a"] {};`, api.ErrType}, {`Dir::"new" in [Dir::"e"] {};`, api.ErrType}, {user("new", `Action::"view"`), api.ErrType}, {user("new", `Action::"ghost"`), api.ErrType}, {`Bot::"new" in [Bot::"r"] {};`, api.ErrType}, {`Bot::"new" in [Dir::"none", Group::"none"] {};`, api.ErrType},
		{user("new", "", "age:"), api.ErrType}, {user("new", "", `age: "3"`), api.ErrType}, {user("new", "", `more: 1`), api.ErrType}, {user("new", "", `tags: [1]`), api.ErrType}, {user("new", "", `tags: ["a", 1]`), api.ErrType}, {user("new", "", `tags: []`), api.OK}, {user("new", "", `boss: Group::"g"`), api.ErrType}, {user("new", "", `boss: Group::"none"`), api.ErrType}, {user("new", "", `r: {last: Action::"view"}`), api.ErrType}, {user("new", "", `r: {last: User::"a", circle: []}`), api.ErrType}, {user("new", "", `r: {last: Action::"view", circle: [User::"a", Group::"g"]}`), api.ErrType}, {`Group::"new" {age: 1};`, api.ErrType}, {`User::"new" {};`, api.ErrType}, {`Doc::"new" {owner: User::"none", public: 1, age: ""};`, api.ErrType}, {user("new", `Group::"none"`, "age:"), api.ErrType}, {user("new", `Dir::"none"`, "age: true"), api.ErrType},
		{user("new", `Group::"none"`), api.ErrMissing}, {user("new", `Group::"g", Group::"none"`), api.ErrMissing}, {user("new", `Group::"none", Group::"zz"`), api.ErrMissing}, {user("new", "", `boss: User::"none"`), api.ErrMissing}, {user("new", "", `boss: User::"B"`), api.ErrMissing}, {user("new", "", `boss: User::"r"`), api.ErrMissing}, {user("new", "", `r: {last: Action::"view", circle: [User::"a", User::"none"]}`), api.ErrMissing}, {user("new", "", `r: {last: Action::"view", circle: [User::"a", User::"b"]}`), api.OK}, {user("new", "", `r: {last: Action::"delete", circle: []}`), api.ErrMissing}, {user("new", "", `r: {last: Action::"ghost", circle: []}`), api.ErrMissing}, {user("new", "", `r: {last: Action::"none", circle: []}`), api.OK}, {user("new", "", `r: {last: Action::"Edit", circle: []}`), api.ErrMissing}, {`Doc::"new" in [Dir::"none"] {owner: User::"a", public: true, age: ""};`, api.ErrMissing}, {`Doc::"new" {owner: User::"none", public: true, age: ""};`, api.ErrMissing},
		{user("new", "", `boss: User::"new"`), api.OK}, {user("new", "", `r: {last: Action::"edit", circle: [User::"a", User::"new"]}`), api.OK}, {user("new", "", `boss: User::"newer"`), api.ErrMissing}, {user("a", "", `boss: User::"a"`), api.OK}, {`Doc::"b" {owner: User::"Doc", public: true, age: ""};`, api.ErrMissing},
	} {
		if why := conform.Entity(x, l, parsed(t, c.s)); why != c.want {
			t.Errorf("%s: error %d, not %d", c.s, why, c.want)
		}
	}
	if why := conform.Entity(x, nil, parsed(t, user("b", ""))); why != api.OK {
		t.Errorf("alone: error %d", why)
	}
	if why := conform.Entity(x, nil, parsed(t, user("a", ""))); why != api.ErrMissing {
		t.Errorf("alone, with a boss: error %d", why)
	}
}

// wrongSchemas are schemas that are not right, and why.
func wrongSchemas(t *testing.T) map[api.Errno]api.Schema {
	many, syntax, twice, unknown, never := parsedSchema(t, houseText), parsedSchema(t, houseText), parsedSchema(t, houseText), parsedSchema(t, houseText), parsedSchema(t, houseText)
	many.Types = make([]api.EntityType, 17)
	syntax.Types[0].Name = "in"
	twice.Actions[1].Id = "view"
	unknown.Types[0].Parents = []string{"Nope"}
	never.Types[1].Attrs = []api.Attr{{Name: "a"}}
	return map[api.Errno]api.Schema{api.ErrMany: many, api.ErrSyntax: syntax, api.ErrTwice: twice, api.ErrUnknown: unknown, api.ErrType: never}
}

// wrongRows are entities in rows that are not right, and why.
func wrongRows(t *testing.T) map[api.Errno][]api.Entity {
	two := row(t, `Group::"g" {};`, `Group::"h" {};`)
	utf := slices.Clone(two)
	utf[1].Uid.Id = "\xff"
	round := slices.Clone(two)
	round[0].Parents, round[1].Parents = []api.Uid{round[1].Uid}, []api.Uid{round[0].Uid}
	kind := slices.Clone(two)
	kind[1].Attrs = api.Value{}
	return map[api.Errno][]api.Entity{api.ErrMany: make([]api.Entity, 65), api.ErrSyntax: {two[1], two[0]}, api.ErrTwice: {two[0], two[0]}, api.ErrUtf: utf, api.ErrCycle: round, api.ErrType: kind}
}

// Promises 14.1 to 14.3: the schema's error goes ahead of the row's, and that one ahead of all else.
func TestErrorsInOrder(t *testing.T) {
	x, l := parsedSchema(t, houseText), people(t)
	holds := func(what string, x api.Schema, l []api.Entity, want api.Errno) {
		t.Helper()
		for _, right := range []bool{false, true} {
			e, q, p := api.Entity{Uid: api.Uid{Type: "U", Id: strings.Repeat("i", 65)}}, api.Request{Principal: api.Uid{Type: "U", Id: strings.Repeat("i", 65)}}, api.Policy{Principal: api.Scope{Kind: api.ScopeCount}}
			if right {
				e, q, p = people(t)[5], visit(t, `{ip: "", who: []}`), must(t, `permit(principal, action, resource);`)
			}
			if why := conform.Entity(x, l, e); why != want {
				t.Errorf("%s, Entity: error %d, not %d", what, why, want)
			}
			if why := conform.Request(x, l, q); why != want {
				t.Errorf("%s, Request: error %d, not %d", what, why, want)
			}
			if why := conform.Policy(x, l, p); why != want {
				t.Errorf("%s, Policy: error %d, not %d", what, why, want)
			}
		}
		if why, place := conform.All(x, l); why != want || place != -1 {
			t.Errorf("%s, All: error %d at %d, not %d", what, why, place, want)
		}
	}
	for want, wrong := range wrongSchemas(t) {
		holds("schema", wrong, l, want)
		for _, row := range wrongRows(t) {
			holds("schema ahead of row", wrong, row, want)
		}
	}
	for want, wrong := range wrongRows(t) {
		holds("row", x, wrong, want)
		holds("row ahead of a schema of nothing", api.Schema{}, wrong, want)
	}
}

// Promise 14.1 of Entity: entity.Check's error goes ahead of what fits, a type that is none ahead of what is of another type, and that ahead of what is not there.
func TestErrorsOfEntityInOrder(t *testing.T) {
	x, l := parsedSchema(t, houseText), people(t)
	nope := api.Entity{Uid: api.Uid{Type: "Nope", Id: "a"}, Attrs: api.Value{Kind: api.KindRecord}}
	with := func(change func(e *api.Entity)) api.Entity {
		e := nope
		change(&e)
		return e
	}
	g, h := api.Uid{Type: "Group", Id: "g"}, api.Uid{Type: "Group", Id: "h"}
	for name, c := range map[string]struct {
		e    api.Entity
		want api.Errno
	}{
		"nothing": {api.Entity{}, api.ErrSyntax}, "no UTF-8": {with(func(e *api.Entity) { e.Uid.Id = "\xff" }), api.ErrUtf}, "too long": {with(func(e *api.Entity) { e.Uid.Id = strings.Repeat("i", 65) }), api.ErrLong}, "parents too many": {with(func(e *api.Entity) { e.Parents = slices.Repeat([]api.Uid{g}, 17) }), api.ErrMany}, "parents not in order": {with(func(e *api.Entity) { e.Parents = []api.Uid{h, g} }), api.ErrSyntax}, "itself": {with(func(e *api.Entity) { e.Parents = []api.Uid{e.Uid} }), api.ErrCycle}, "no record": {with(func(e *api.Entity) { e.Attrs = api.Value{Kind: api.KindSet} }), api.ErrType},
		"a type that is none": {nope, api.ErrUnknown}, "a type that is none, first": {parsed(t, `Nope::"a" in [Dir::"none"] {a: User::"none"};`), api.ErrUnknown}, "another type, first": {parsed(t, `Dir::"a" in [Dir::"none"] {};`), api.ErrType}, "attributes, first": {parsed(t, `Group::"a" in [Group::"none"] {a: User::"none"};`), api.ErrType}, "not there": {parsed(t, `Group::"a" in [Group::"none"] {};`), api.ErrMissing},
	} {
		if why := conform.Entity(x, l, c.e); why != c.want {
			t.Errorf("%s: error %d, not %d", name, why, c.want)
		}
	}
}

// Promise 14.1 of All: the first one that does not fit, and its place; or how many there are.
func TestAll(t *testing.T) {
	x := parsedSchema(t, houseText)
	for name, c := range map[string]struct {
		l     []api.Entity
		want  api.Errno
		place int
	}{
		"nobody": {nil, api.OK, 0}, "an empty row": {[]api.Entity{}, api.OK, 0}, "all": {people(t), api.OK, 7}, "one": {row(t, user("b", "")), api.OK, 1},
		"a type that is none":      {people(t, ghost), api.ErrUnknown, 0},
		"one behind all":           {people(t, `Zoo::"z" {};`), api.ErrUnknown, 7},
		"a boss who is dropped":    {slices.Delete(people(t), 6, 7), api.ErrMissing, 5},
		"an owner who is dropped":  {slices.Delete(people(t), 5, 6), api.ErrMissing, 2},
		"a parent who is dropped":  {slices.Delete(people(t), 3, 4), api.ErrMissing, 3},
		"the first one of several": {row(t, `Dir::"e" {};`, `Group::"a" in [Group::"none"] {};`, `Group::"b" {a: 1};`, `Nope::"a" {};`), api.ErrMissing, 1},
		"two who are each other's": {row(t, user("a", "", `boss: User::"b"`), user("b", "", `boss: User::"a"`)), api.OK, 2},
		"as many as may be":        {crowd(64, -1), api.OK, 64}, "the last one of them": {crowd(64, 63), api.ErrType, 63}, "too many": {crowd(65, 0), api.ErrMany, -1},
	} {
		if why, place := conform.All(x, c.l); why != c.want || place != c.place {
			t.Errorf("%s: error %d at %d, not %d at %d", name, why, place, c.want, c.place)
		}
	}
	if why, place := conform.All(api.Schema{}, nil); why != api.OK || place != 0 {
		t.Errorf("nothing at all: error %d at %d", why, place)
	}
	if why, place := conform.All(api.Schema{}, people(t)); why != api.ErrUnknown || place != 0 {
		t.Errorf("no schema: error %d at %d", why, place)
	}
}

// crowd are n directories, one of which does not fit.
func crowd(n, wrong int) []api.Entity {
	var l []api.Entity
	for i := range n {
		e := api.Entity{Uid: api.Uid{Type: "Dir", Id: string([]byte{'a' + byte(i/26), 'a' + byte(i%26)})}, Attrs: api.Value{Kind: api.KindRecord}}
		if i == wrong {
			e.Attrs.Names, e.Attrs.List = []string{"a"}, []api.Value{{Kind: api.KindLong}}
		}
		l = append(l, e)
	}
	return l
}

// context is the record of a text.
func context(t *testing.T, s string) api.Value {
	t.Helper()
	e, why, place := expr.Parse(s)
	if why != api.OK {
		t.Fatalf("%q: error %d at %d", s, why, place)
	}
	v, why := entity.Value(e)
	if why != api.OK {
		t.Fatalf("%q: error %d", s, why)
	}
	return v
}

// visit is what most tests ask, with a context.
func visit(t *testing.T, s string) api.Request {
	t.Helper()
	return api.Request{Principal: api.Uid{Type: "User", Id: "a"}, Action: api.Uid{Type: "Action", Id: "view"}, Resource: api.Uid{Type: "Doc", Id: "d"}, Context: context(t, s)}
}

// Promise 14.2, and words: requests that fit, and that do not.
func TestRequest(t *testing.T) {
	x := parsedSchema(t, houseText)
	l := people(t, ghost, `Action::"view" {};`)
	const good = `{ip: "", who: []}`
	for _, c := range []struct {
		p, a, r, context string
		want             api.Errno
	}{
		{"User.a", "Action.view", "Doc.d", good, api.OK}, {"User.b", "Action.view", "Doc.d", good, api.OK}, {"Bot.r", "Action.view", "Doc.d", good, api.OK}, {"User.a", "Action.edit", "Doc.d", `{n: 1, by: {act: Action::"none"}}`, api.OK}, {"User.a", "Action.edit", "Dir.e", `{n: -1, by: {act: Action::"view"}}`, api.OK}, {"User.a", "Action.view", "Doc.d", `{ip: "x", who: [User::"a", User::"b"]}`, api.OK},
		{"User.a", "User.a", "Doc.d", good, api.ErrUnknown}, {"User.a", "User.view", "Doc.d", good, api.ErrUnknown}, {"User.a", "Action.ghost", "Doc.d", good, api.ErrUnknown}, {"User.a", "Action.", "Doc.d", good, api.ErrUnknown}, {"User.a", "Action.View", "Doc.d", good, api.ErrUnknown}, {"User.a", "Nope.view", "Doc.d", good, api.ErrUnknown}, {"Nope.n", "Action.ghost", "Nope.n", `{}`, api.ErrUnknown}, {"User.a", "Actions.view", "Doc.d", good, api.ErrUnknown},
		{"Dir.e", "Action.view", "Doc.d", good, api.ErrType}, {"Bot.r", "Action.edit", "Doc.d", `{n: 1, by: {act: Action::"none"}}`, api.ErrType}, {"Nope.n", "Action.view", "Doc.d", good, api.ErrType}, {"User.a", "Action.none", "Doc.d", `{}`, api.ErrType}, {"User.a", "Action.view", "Dir.e", good, api.ErrType}, {"User.a", "Action.view", "User.a", good, api.ErrType}, {"Doc.d", "Action.view", "User.a", good, api.ErrType}, {"User.a", "Action.view", "Nope.n", good, api.ErrType}, {"Action.view", "Action.view", "Doc.d", good, api.ErrType}, {"User.a", "Action.view", "Action.view", good, api.ErrType},
		{"User.a", "Action.view", "Doc.d", `{}`, api.ErrType}, {"User.a", "Action.view", "Doc.d", `{ip: ""}`, api.ErrType}, {"User.a", "Action.view", "Doc.d", `{ip: "", who: [], more: 1}`, api.ErrType}, {"User.a", "Action.view", "Doc.d", `{ip: 1, who: []}`, api.ErrType}, {"User.a", "Action.view", "Doc.d", `{ip: "", who: [Group::"g"]}`, api.ErrType}, {"User.a", "Action.view", "Doc.d", `{ip: "", who: [Group::"none"]}`, api.ErrType}, {"User.a", "Action.view", "Doc.d", `{ip: "", Who: []}`, api.ErrType}, {"User.a", "Action.edit", "Doc.d", good, api.ErrType}, {"User.none", "Action.view", "Doc.none", `{ip: "", who: 1}`, api.ErrType}, {"Dir.none", "Action.view", "Doc.d", good, api.ErrType}, {"User.none", "Action.view", "Dir.none", good, api.ErrType}, {"User.none", "Action.view", "Doc.d", `{ip: "", who: [1]}`, api.ErrType},
		{"User.none", "Action.view", "Doc.d", good, api.ErrMissing}, {"User.d", "Action.view", "Doc.d", good, api.ErrMissing}, {"User.a", "Action.view", "Doc.none", good, api.ErrMissing}, {"User.a", "Action.view", "Doc.a", good, api.ErrMissing}, {"User.a", "Action.view", "Doc.d", `{ip: "", who: [User::"a", User::"none"]}`, api.ErrMissing}, {"User.a", "Action.view", "Doc.d", `{ip: "", who: [User::"none", User::"b"]}`, api.ErrMissing}, {"User.a", "Action.edit", "Doc.d", `{n: 1, by: {act: Action::"ghost"}}`, api.ErrMissing}, {"User.a", "Action.edit", "Doc.d", `{n: 1, by: {act: Action::"nope"}}`, api.ErrMissing}, {"User.a", "Action.edit", "Dir.none", `{n: 1, by: {act: Action::"none"}}`, api.ErrMissing}, {"User.none", "Action.view", "Doc.d", `{ip: "", who: [User::"none"]}`, api.ErrMissing},
	} {
		uid := func(s string) api.Uid {
			kind, id, _ := strings.Cut(s, ".")
			return api.Uid{Type: kind, Id: id}
		}
		q := api.Request{Principal: uid(c.p), Action: uid(c.a), Resource: uid(c.r), Context: context(t, c.context)}
		if why := conform.Request(x, l, q); why != c.want {
			t.Errorf("%v: error %d, not %d", c, why, c.want)
		}
	}
}

// Promise 14.2: eval.Check's error goes ahead of what fits.
func TestErrorsOfRequestInOrder(t *testing.T) {
	x, l := parsedSchema(t, houseText), people(t)
	utf, far, none := api.Uid{Type: "Nope", Id: "\xff"}, api.Uid{Type: "Nope", Id: strings.Repeat("i", 65)}, api.Uid{Type: "in"}
	nope := api.Uid{Type: "Nope"}
	for name, c := range map[string]struct {
		q    api.Request
		want api.Errno
	}{
		"nothing": {api.Request{}, api.ErrSyntax}, "the Principal": {api.Request{Principal: utf, Action: far, Resource: none}, api.ErrUtf}, "the Action": {api.Request{Principal: nope, Action: far, Resource: utf}, api.ErrLong}, "the Resource": {api.Request{Principal: nope, Action: nope, Resource: none}, api.ErrSyntax},
		"the Context": {api.Request{Principal: nope, Action: nope, Resource: nope}, api.ErrType}, "a set": {api.Request{Principal: nope, Action: nope, Resource: nope, Context: api.Value{Kind: api.KindSet}}, api.ErrType}, "a record": {api.Request{Principal: nope, Action: nope, Resource: nope, Context: context(t, `{}`)}, api.ErrUnknown},
	} {
		if why := conform.Request(x, l, c.q); why != c.want {
			t.Errorf("%s: error %d, not %d", name, why, c.want)
		}
	}
}

// must is the policy of a text.
func must(t *testing.T, s string) api.Policy {
	t.Helper()
	p, why, place := policy.Parse(s)
	if why != api.OK {
		t.Fatalf("%q: error %d at %d", s, why, place)
	}
	return p
}

// Promise 14.3, and words: policies that fit, and that do not.
func TestPolicy(t *testing.T) {
	x, l := parsedSchema(t, houseText), people(t, ghost, `Nope::"here" {};`)
	for s, want := range map[string]api.Errno{
		`permit(principal, action, resource);`: api.OK, `forbid(principal, action, resource);`: api.OK, `permit(principal, action, resource) when { true } unless { false };`: api.OK, `permit(principal == User::"a", action == Action::"view", resource == Doc::"d");`: api.OK, `permit(principal in Group::"g", action in [Action::"view", Action::"edit"], resource in Dir::"e");`: api.OK, `permit(principal is User, action, resource is Doc) when { principal.age < 3 && resource.public };`: api.OK,
		// The Bot has no age.
		`permit(principal, action, resource) when { principal.age < 3 };`: api.ErrMissing, `permit(principal is User, action, resource) when { principal.age < 3 };`: api.OK, `permit(principal == User::"a", action, resource) when { principal.age < 3 };`: api.OK, `permit(principal in User::"a", action, resource) when { principal.age < 3 };`: api.ErrMissing, `permit(principal in Group::"g", action, resource) when { principal.age < 3 };`: api.ErrMissing, `permit(principal, action == Action::"edit", resource) when { principal.age < 3 };`: api.OK, `permit(principal, action in [Action::"edit", Action::"none"], resource) when { principal.age < 3 };`: api.OK, `permit(principal, action in [Action::"none", Action::"view"], resource) when { principal.age < 3 };`: api.ErrMissing, `permit(principal, action == Action::"view", resource) when { principal.age < 3 };`: api.ErrMissing, `permit(principal is Bot, action, resource) when { principal.age < 3 };`: api.ErrMissing, `permit(principal == Bot::"r", action, resource) when { principal.age < 3 };`: api.ErrMissing, `permit(principal, action, resource) unless { principal.age < 3 };`: api.ErrMissing, `permit(principal, action, resource) when { principal is User && principal.age < 3 };`: api.ErrMissing, `permit(principal, action, resource) when { principal has age };`: api.OK,
		// A directory is not public.
		`permit(principal, action, resource) when { resource.public };`: api.ErrMissing, `permit(principal, action, resource is Doc) when { resource.public };`: api.OK, `permit(principal, action, resource == Doc::"d") when { resource.public };`: api.OK, `permit(principal, action, resource in Dir::"e") when { resource.public };`: api.ErrMissing, `permit(principal, action == Action::"view", resource) when { resource.public };`: api.OK, `permit(principal, action == Action::"edit", resource) when { resource.public };`: api.ErrMissing, `permit(principal, action, resource is Dir) when { resource.public };`: api.ErrMissing, `permit(principal, action, resource == Dir::"e") when { resource.public };`: api.ErrMissing, `permit(principal is Bot, action, resource) when { resource.public };`: api.OK,
		`permit(principal, action, resource) when { context.ip == "" };`: api.ErrMissing, `permit(principal, action == Action::"view", resource) when { context.ip == "" };`: api.OK, `permit(principal, action in [Action::"view"], resource) when { context.who.contains(principal) };`: api.OK, `permit(principal is Bot, action, resource) when { context.ip == "" };`: api.OK, `permit(principal, action, resource is Dir) when { context.n < 1 };`: api.OK, `permit(principal, action == Action::"view", resource) when { context.n < 1 };`: api.ErrMissing, `permit(principal, action == Action::"none", resource) when { context.n < 1 };`: api.OK,
		// It is asked of nothing, so nothing is wrong with it but whom it names.
		`permit(principal is Group, action, resource) when { 1 };`: api.OK, `permit(principal == Group::"g", action, resource) when { principal.none };`: api.OK, `permit(principal, action, resource is User) when { 1 + true == 2 };`: api.OK, `permit(principal, action, resource == User::"a") when { context.none };`: api.OK, `permit(principal is Nope, action, resource) when { 1 };`: api.OK, `permit(principal, action == User::"a", resource) when { 1 };`: api.OK, `permit(principal, action in [User::"a", Group::"g"], resource) when { 1 };`: api.OK, `permit(principal is Bot, action == Action::"edit", resource) when { 1 };`: api.OK, `permit(principal is Group, action, resource) when { principal == User::"none" };`: api.ErrMissing, `permit(principal, action == Action::"nope", resource) when { 1 };`: api.ErrMissing, `permit(principal, action == Action::"ghost", resource) when { 1 };`: api.ErrMissing, `permit(principal is Group, action, resource) when { Nope::"here" == 1 };`: api.OK, `permit(principal is Group, action, resource) when { Nope::"none" == 1 };`: api.ErrMissing, `permit(principal == Nope::"here", action, resource) when { 1 };`: api.OK, `permit(principal, action == User::"view", resource) when { 1 };`: api.ErrMissing, `permit(principal, action, resource == Action::"view") when { 1 };`: api.OK,
		`permit(principal, action, resource) when { 1 };`: api.ErrType, `permit(principal, action, resource) unless { "a" };`: api.ErrType, `permit(principal, action, resource) when { principal };`: api.ErrType, `permit(principal, action, resource) when { true } when { [] };`: api.ErrType, `permit(principal, action, resource) when { 1 < true };`: api.ErrType, `permit(principal, action, resource) when { false } when { 1 };`: api.ErrType, `permit(principal, action, resource) when { Nope::"here" == 1 };`: api.ErrUnknown, `permit(principal in Nope::"here", action, resource);`: api.ErrUnknown, `permit(principal, action, resource) when { Action::"ghost" == 1 };`: api.ErrUnknown, `permit(principal, action in [Action::"view", Action::"ghost"], resource);`: api.ErrUnknown, `permit(principal, action in [Action::"view", Nope::"here"], resource);`: api.ErrUnknown, `permit(principal, action, resource in Nope::"none");`: api.ErrUnknown,
		`permit(principal == User::"none", action, resource);`: api.ErrMissing, `permit(principal in Group::"none", action, resource);`: api.ErrMissing, `permit(principal, action, resource == Doc::"none");`: api.ErrMissing, `permit(principal, action, resource in Dir::"none");`: api.ErrMissing, `permit(principal, action, resource) when { principal == User::"none" };`: api.ErrMissing, `permit(principal, action, resource) when { true } unless { [User::"a", User::"none"].contains(principal) };`: api.ErrMissing, `permit(principal == User::"none", action, resource) when { 1 };`: api.ErrType, `permit(principal, action, resource) when { User::"none" == 1 && 1 };`: api.ErrType, `permit(principal == User::"none", action, resource) when { Nope::"none" == 1 };`: api.ErrUnknown, `permit(principal == User::"r", action, resource);`: api.ErrMissing, `permit(principal, action, resource) when { if false then User::"none" == principal else true };`: api.ErrMissing, `permit(principal, action, resource) when { action == Action::"none" };`: api.OK, `permit(principal, action, resource) when { principal in [] };`: api.OK,
	} {
		if why := conform.Policy(x, l, must(t, s)); why != want {
			t.Errorf("%s: error %d, not %d", s, why, want)
		}
	}
}

// Promise 14.3: action by action, principals' types within, resources' types within that, the first error; and the entities behind all of them.
func TestKindsOfRequestsInOrder(t *testing.T) {
	const kinds = `entity A {v: Long}; entity B {v: String}; entity C {v: Long}; entity D {};
		action "one" appliesTo {principal: [A, B], resource: [C, D], context: {x: Long}};`
	const none = ` action "two" appliesTo {principal: [A], resource: [C], context: {y: Long}}; action "three" appliesTo {principal: [A], resource: [C], context: {x: String}};`
	const turned = ` action "three" appliesTo {principal: [A], resource: [C], context: {x: String}}; action "two" appliesTo {principal: [A], resource: [C], context: {y: Long}};`
	for _, c := range []struct {
		schema, policy string
		want           api.Errno
	}{
		{kinds, `permit(principal, action, resource) when { principal.v + resource.v == 0 };`, api.ErrMissing}, {kinds, `permit(principal is B, action, resource) when { principal.v + resource.v == 0 };`, api.ErrType}, {kinds, `permit(principal, action, resource is C) when { principal.v + resource.v == 0 };`, api.ErrType}, {kinds, `permit(principal is B, action, resource is D) when { principal.v + resource.v == 0 };`, api.ErrMissing}, {kinds, `permit(principal is A, action, resource is C) when { principal.v + resource.v == 0 };`, api.OK},
		{kinds + none, `permit(principal, action, resource) when { context.x == 1 } when { principal == principal };`, api.ErrMissing}, {kinds + none, `permit(principal, action, resource) when { context.x < 1 };`, api.ErrMissing}, {kinds + turned, `permit(principal, action, resource) when { context.x < 1 };`, api.ErrType}, {kinds + turned, `permit(principal, action in [Action::"two", Action::"three", Action::"one"], resource) when { context.x < 1 };`, api.ErrType}, {kinds + none, `permit(principal, action in [Action::"three", Action::"two"], resource) when { context.x < 1 };`, api.ErrMissing}, {kinds + none, `permit(principal, action == Action::"three", resource) when { context.x < 1 };`, api.ErrType}, {kinds + none, `permit(principal, action == Action::"one", resource) when { context.x < 1 };`, api.OK},
		{kinds, `permit(principal, action, resource) when { A::"none" == principal && resource.v < 1 };`, api.ErrMissing}, {kinds, `permit(principal is B, action, resource is C) when { A::"none" == principal && principal.v < 1 };`, api.ErrType},
		{`entity A {};`, `permit(principal, action, resource) when { 1 };`, api.OK}, {``, `permit(principal, action, resource) when { 1 };`, api.OK}, {``, `permit(principal == A::"a", action, resource);`, api.ErrMissing},
	} {
		if why := conform.Policy(parsedSchema(t, c.schema), nil, must(t, c.policy)); why != c.want {
			t.Errorf("%s: error %d, not %d", c.policy, why, c.want)
		}
	}
}

// Promise 14.3: policy.Check's error goes ahead of what fits.
func TestErrorsOfPolicyInOrder(t *testing.T) {
	x, l := parsedSchema(t, houseText), people(t)
	wrong := must(t, `permit(principal == Nope::"n", action, resource) when { 1 };`)
	none, many, bad, deep := wrong, wrong, wrong, wrong
	none.Principal.Uids = nil
	many.Conds = slices.Repeat(wrong.Conds, 17)
	bad.Conds = []api.Cond{{Expr: api.Expr{Op: api.OpNot}}}
	e := api.Expr{Op: api.OpBool}
	for range 15 {
		e = api.Expr{Op: api.OpNot, Kids: []api.Expr{e}}
	}
	deep.Conds = []api.Cond{{Expr: e}}
	for name, c := range map[string]struct {
		p    api.Policy
		want api.Errno
	}{
		"a scope that is none": {none, api.ErrSyntax}, "too many conditions": {many, api.ErrMany}, "a condition that is none": {bad, api.ErrSyntax}, "a body too deep": {deep, api.ErrDepth}, "nothing": {api.Policy{}, api.OK},
	} {
		if why := conform.Policy(x, l, c.p); why != c.want {
			t.Errorf("%s: error %d, not %d", name, why, c.want)
		}
	}
}

// Example 1, and example 8 of the whole.
func TestExamples(t *testing.T) {
	x := parsedSchema(t, `entity User {boss: User}; entity Old {age: Long}; action "view" appliesTo {principal: [User], resource: [User], context: {}};`)
	if why := conform.Policy(x, nil, must(t, `permit(principal, action, resource) when { principal.age < 3 };`)); why != api.ErrMissing {
		t.Errorf("an age on a type without age: error %d", why)
	}
	a := parsed(t, `User::"a" {boss: User::"b"};`)
	if why := conform.Entity(x, nil, a); why != api.ErrMissing {
		t.Errorf("a boss that is no entity: error %d", why)
	}
	if why, place := conform.All(x, []api.Entity{a}); why != api.ErrMissing || place != 0 {
		t.Errorf("a boss that is no entity: error %d at %d", why, place)
	}
	l, why := entity.Drop(row(t, `User::"a" {boss: User::"b"};`, `User::"b" {boss: User::"b"};`), api.Uid{Type: "User", Id: "b"})
	if no, place := conform.All(x, l); no != api.ErrMissing || place != 0 || why != api.OK {
		t.Errorf("a boss who is dropped: error %d at %d, %d", no, place, why)
	}
}

// P3, and the rules: what is handed in is not changed.
func TestNothingIsChanged(t *testing.T) {
	x, l, q := parsedSchema(t, houseText), people(t), visit(t, `{ip: "", who: [User::"a"]}`)
	p := must(t, `permit(principal, action in [Action::"view", Action::"edit"], resource) when { {b: principal, a: [resource]} == context };`)
	e := parsed(t, user("new", `Group::"g"`))
	before := again(q.Context)
	for range 2 {
		one, two, three := conform.Entity(x, l, e), conform.Request(x, l, q), conform.Policy(x, l, p)
		why, n := conform.All(x, l)
		if one != api.OK || two != api.OK || three != api.OK || why != api.OK || n != 7 {
			t.Errorf("errors %d, %d, %d, %d, and %d", one, two, three, why, n)
		}
	}
	if !reflect.DeepEqual(x, parsedSchema(t, houseText)) || !reflect.DeepEqual(l, people(t)) || !reflect.DeepEqual(q.Context, before) || !reflect.DeepEqual(p, must(t, `permit(principal, action in [Action::"view", Action::"edit"], resource) when { {b: principal, a: [resource]} == context };`)) || !reflect.DeepEqual(e, parsed(t, user("new", `Group::"g"`))) {
		t.Error("what was handed in is changed")
	}
}

// P4.
func TestNoGoroutineIsLeft(t *testing.T) {
	before := runtime.NumGoroutine()
	x, l := parsedSchema(t, houseText), people(t)
	for range 20 {
		conform.Policy(x, l, must(t, `permit(principal, action, resource) when { principal.age < 3 };`))
		conform.Request(x, l, visit(t, `{ip: "", who: [User::"none", User::"a"]}`))
		conform.All(x, l)
	}
	if after := runtime.NumGoroutine(); after > before {
		t.Errorf("%d goroutines, before %d", after, before)
	}
}
