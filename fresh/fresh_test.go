package fresh_test

import (
	"reflect"
	"testing"

	"lictor/api"
	"lictor/fresh"
)

// value is one with lists within lists, of which two are the same memory.
func value() api.Value {
	inner := api.Value{Kind: api.KindSet, List: []api.Value{{Kind: api.KindLong, N: 1}, {Kind: api.KindString, S: "s"}}}
	return api.Value{Kind: api.KindRecord, Names: []string{"a", "b"}, List: []api.Value{inner, inner}}
}

func row() []api.Entity {
	one := api.Entity{Uid: api.Uid{Type: "A", Id: "x"}, Parents: []api.Uid{{Type: "B", Id: "y"}}, Attrs: value()}
	return []api.Entity{one, one}
}

// A copy is as what it is of, and stays so, whatever is done with that.
func TestCopies(t *testing.T) {
	names, v, l := []string{"a", "b"}, value(), row()
	e := l[0]
	if n := fresh.List(names); !reflect.DeepEqual(n, names) || &n[0] == &names[0] {
		t.Errorf("%v", n)
	}
	w, f, m := fresh.Value(v), fresh.Entity(e), fresh.Entities(l)
	if !reflect.DeepEqual(w, v) || !reflect.DeepEqual(f, e) || !reflect.DeepEqual(m, l) {
		t.Errorf("%v, %v, %v", w, f, m)
	}
	m[0].Parents[0].Id, m[0].Attrs.Names[0], m[0].Attrs.List[0].List[0].N = "spoilt", "spoilt", 7
	if !reflect.DeepEqual(m[1], f) || m[0].Attrs.List[1].List[0].N != 1 {
		t.Error("two lists of a copy share memory")
	}
	v.Names[0], v.List[0].List[0].N = "spoilt", 7
	e.Parents[0].Id, e.Attrs.Names[0], e.Attrs.List[0].List[0].N = "spoilt", "spoilt", 7
	l[0].Uid.Id = "spoilt"
	if !reflect.DeepEqual(w, value()) || !reflect.DeepEqual(f, row()[0]) {
		t.Error("a copy shares memory")
	}
}

// Empty lists of copies are nil.
func TestEmptyLists(t *testing.T) {
	v := fresh.Value(api.Value{Names: []string{}, List: []api.Value{}})
	e := fresh.Entity(api.Entity{Parents: []api.Uid{}})
	if fresh.List([]string{}) != nil || v.Names != nil || v.List != nil || e.Parents != nil || fresh.Entities([]api.Entity{}) != nil {
		t.Error("an empty list is not nil")
	}
}

// state is one with lists at all places.
func state() api.State {
	long := api.Type{Kind: api.TypeLong}
	attrs := []api.Attr{{Name: "a", Type: api.Type{Kind: api.TypeSet, Of: []api.Type{long}}}, {Name: "b", Type: api.Type{Kind: api.TypeRecord, Attrs: []api.Attr{{Name: "c", Type: long}}}}}
	names := []string{"A", "B"}
	x := api.Schema{Types: []api.EntityType{{Name: "A", Parents: names, Attrs: attrs}}, Actions: []api.Action{{Id: "v", Principals: names, Resources: names, Context: attrs}}}
	uids := []api.Uid{{Type: "A", Id: "x"}}
	e := api.Expr{Op: api.OpRecord, Names: []string{"k"}, Kids: []api.Expr{{Op: api.OpSet, Kids: []api.Expr{{Op: api.OpLong, N: 1}}}}}
	scope := api.Scope{Kind: api.ScopeEqual, Uids: uids}
	p := api.Policy{Permit: true, Principal: scope, Action: scope, Resource: scope, Conds: []api.Cond{{Expr: e}, {Unless: true, Expr: e}}}
	return api.State{Schema: x, Policies: []api.Named{{Id: "p", Policy: p}, {Id: "q", Policy: p}}, Entities: row()}
}

// spoil writes over all that lists of a value have, wherever they are.
func spoil(v reflect.Value) {
	switch v.Kind() {
	case reflect.Struct:
		for i := range v.NumField() {
			spoil(v.Field(i))
		}
	case reflect.Slice:
		for i := range v.Len() {
			spoil(v.Index(i))
			v.Index(i).SetZero()
		}
	}
}

// lists counts where each piece of memory that a value's lists have begins.
func lists(v reflect.Value, begins map[uintptr]int) {
	switch v.Kind() {
	case reflect.Struct:
		for i := range v.NumField() {
			lists(v.Field(i), begins)
		}
	case reflect.Slice:
		if v.Len() > 0 {
			begins[v.Pointer()]++
		}
		for i := range v.Len() {
			lists(v.Index(i), begins)
		}
	}
}

// A copy of a state, and of its parts, is as what it is of, stays so, and no two lists of it share memory.
func TestCopiesOfStates(t *testing.T) {
	one := state()
	copies := []any{fresh.State(one), fresh.Schema(one.Schema), fresh.Policies(one.Policies), fresh.Policy(one.Policies[0].Policy), fresh.Expr(one.Policies[0].Policy.Conds[0].Expr)}
	spoil(reflect.ValueOf(&one).Elem())
	two := state()
	for i, of := range []any{two, two.Schema, two.Policies, two.Policies[0].Policy, two.Policies[0].Policy.Conds[0].Expr} {
		if !reflect.DeepEqual(copies[i], of) {
			t.Errorf("%v, not %v", copies[i], of)
		}
		begins := map[uintptr]int{}
		lists(reflect.ValueOf(copies[i]), begins)
		for _, n := range begins {
			if n > 1 {
				t.Errorf("%d lists of a copy share memory: %v", n, copies[i])
			}
		}
	}
}

// store is one with lists at all places, of which some are the same memory.
func store() api.Store {
	sectors, l := []string{"a", "b"}, []api.Change{{Kind: api.ChangeForget, Id: "p"}, {Kind: api.ChangeForget, Id: "q"}}
	d := api.Disk{Sectors: sectors, Pending: []api.Write{{Sector: 1, Data: "c"}}, Off: true, Fuse: 3}
	v := api.Versions{First: 4, States: []api.State{state(), state(), {}}, Lists: [][]api.Change{l, l}}
	return api.Store{Disk: d, Versions: v, Epoch: 5, At: 6, Count: 7}
}

// A copy of a store, and of its parts, is as what it is of, stays so, and no two lists of it share memory.
func TestCopiesOfStores(t *testing.T) {
	one := store()
	copies := []any{fresh.Store(one), fresh.Versions(one.Versions), fresh.Disk(one.Disk)}
	spoil(reflect.ValueOf(&one).Elem())
	two := store()
	for i, of := range []any{two, two.Versions, two.Disk} {
		if !reflect.DeepEqual(copies[i], of) {
			t.Errorf("%v, not %v", copies[i], of)
		}
		begins := map[uintptr]int{}
		lists(reflect.ValueOf(copies[i]), begins)
		for _, n := range begins {
			if n > 1 {
				t.Errorf("%d lists of a copy share memory: %v", n, copies[i])
			}
		}
	}
	none := api.Store{Disk: api.Disk{Sectors: []string{}, Pending: []api.Write{}}, Versions: api.Versions{States: []api.State{}, Lists: [][]api.Change{}}}
	if s := fresh.Store(none); !reflect.DeepEqual(s, api.Store{}) {
		t.Errorf("%v", s)
	}
	if v := fresh.Versions(api.Versions{Lists: [][]api.Change{{}}}); v.Lists[0] != nil {
		t.Errorf("%v", v)
	}
}

// server is one with lists at all places, of which some are the same memory.
func server() api.Server {
	l := []api.Change{{Kind: api.ChangeForget, Id: "p"}}
	return api.Server{Store: store(), Up: true, Open: []api.Tx{{N: 1, List: l}, {N: 2, List: l}, {N: 3}}, Last: 4}
}

// A copy of a service is as what it is of, stays so, and no two lists of it share memory.
func TestCopiesOfServices(t *testing.T) {
	one := server()
	two := fresh.Server(one)
	spoil(reflect.ValueOf(&one).Elem())
	if !reflect.DeepEqual(two, server()) {
		t.Errorf("%v", two)
	}
	begins := map[uintptr]int{}
	lists(reflect.ValueOf(two), begins)
	for _, n := range begins {
		if n > 1 {
			t.Errorf("%d lists of a copy share memory", n)
		}
	}
	if s := fresh.Server(api.Server{Open: []api.Tx{{List: []api.Change{}}}}); s.Open[0].List != nil {
		t.Errorf("%v", s)
	}
	if s := fresh.Server(api.Server{Open: []api.Tx{}}); !reflect.DeepEqual(s, api.Server{}) {
		t.Errorf("%v", s)
	}
}

// Empty lists of a copy of a state are nil.
func TestEmptyListsOfStates(t *testing.T) {
	none := api.State{Schema: api.Schema{Types: []api.EntityType{}, Actions: []api.Action{}}, Policies: []api.Named{}, Entities: []api.Entity{}}
	if s := fresh.State(none); !reflect.DeepEqual(s, api.State{}) {
		t.Errorf("%v", s)
	}
	scope := api.Scope{Uids: []api.Uid{}}
	p := api.Policy{Principal: scope, Action: scope, Resource: scope, Conds: []api.Cond{{Expr: api.Expr{Names: []string{}, Kids: []api.Expr{}}}}}
	if q := fresh.Policy(p); !reflect.DeepEqual(q, api.Policy{Conds: []api.Cond{{}}}) {
		t.Errorf("%v", q)
	}
	attrs := []api.Attr{{Type: api.Type{Of: []api.Type{}, Attrs: []api.Attr{}}}}
	x := api.Schema{Types: []api.EntityType{{Parents: []string{}, Attrs: attrs}}, Actions: []api.Action{{Principals: []string{}, Resources: []string{}, Context: attrs}}}
	if y := fresh.Schema(x); !reflect.DeepEqual(y, api.Schema{Types: []api.EntityType{{Attrs: []api.Attr{{}}}}, Actions: []api.Action{{Context: []api.Attr{{}}}}}) {
		t.Errorf("%v", y)
	}
}
