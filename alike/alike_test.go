package alike_test

import (
	"reflect"
	"testing"

	"lictor/alike"
	"lictor/api"
	"lictor/fresh"
)

// state is one with lists at all places.
func state() api.State {
	value := api.Value{Kind: api.KindRecord, Names: []string{"a", "b"}, List: []api.Value{{Kind: api.KindSet, List: []api.Value{{Kind: api.KindLong, N: 1}}}, {Kind: api.KindEntity, T: "A", S: "x"}}}
	long := api.Type{Kind: api.TypeLong}
	attrs := []api.Attr{{Name: "a", Type: api.Type{Kind: api.TypeSet, Of: []api.Type{long}}}, {Name: "b", Type: api.Type{Kind: api.TypeRecord, Attrs: []api.Attr{{Name: "c", Type: long}}}}}
	names := []string{"A", "B"}
	x := api.Schema{Types: []api.EntityType{{Name: "A", Parents: names, Attrs: attrs}}, Actions: []api.Action{{Id: "v", Principals: names, Resources: names, Context: attrs}}}
	uids := []api.Uid{{Type: "A", Id: "x"}}
	e := api.Expr{Op: api.OpRecord, Names: []string{"k"}, Kids: []api.Expr{{Op: api.OpSet, Kids: []api.Expr{{Op: api.OpLong, N: 1}}}}}
	scope := api.Scope{Kind: api.ScopeEqual, Uids: uids}
	p := api.Policy{Permit: true, Principal: scope, Action: scope, Resource: scope, Conds: []api.Cond{{Expr: e}, {Unless: true, Expr: e}}}
	l := []api.Entity{{Uid: uids[0], Parents: []api.Uid{{Type: "B", Id: "y"}}, Attrs: value}, {Uid: api.Uid{Type: "B", Id: "y"}}}
	return fresh.State(api.State{Schema: x, Policies: []api.Named{{Id: "p", Policy: p}, {Id: "q", Policy: p}}, Entities: l})
}

// turn changes the part of a value that stands at place n of all, and tells how many places are left ahead of it; of a list its last part is dropped, and another one is put behind it.
func turn(v reflect.Value, n int) int {
	switch v.Kind() {
	case reflect.Struct:
		for i := 0; i < v.NumField() && n >= 0; i++ {
			n = turn(v.Field(i), n)
		}
		return n
	case reflect.Slice:
		for i := 0; i < v.Len() && n >= 0; i++ {
			n = turn(v.Index(i), n)
		}
		places, some := 1, v.Len() > 0
		if some {
			places = 2
		}
		switch {
		case n == 0:
			v.Set(reflect.Append(v, reflect.New(v.Type().Elem()).Elem()))
		case n == 1 && some:
			v.SetLen(v.Len() - 1)
		}
		return n - places
	}
	if n == 0 {
		other(v)
	}
	return n - 1
}

// other changes a number, a text, a bool.
func other(v reflect.Value) {
	switch v.Kind() {
	case reflect.Bool:
		v.SetBool(!v.Bool())
	case reflect.String:
		v.SetString(v.String() + "x")
	case reflect.Int64:
		v.SetInt(v.Int() + 1)
	default:
		v.SetUint(v.Uint() + 1)
	}
}

// What differs in one part, wherever it is, is not the same; what differs in none is.
func TestEachPartIsLookedAt(t *testing.T) {
	turned := 0
	for n := 0; ; n++ {
		a, b := state(), state()
		if !alike.State(a, b) || !alike.State(a, a) {
			t.Fatal("it is not the same as itself")
		}
		if left := turn(reflect.ValueOf(&b).Elem(), n); left >= 0 {
			break
		}
		if reflect.DeepEqual(fresh.State(a), fresh.State(b)) {
			continue
		}
		turned++
		if alike.State(a, b) || alike.State(b, a) {
			t.Errorf("part %d: %v, as if it were %v", n, b, a)
		}
	}
	if turned < 150 {
		t.Errorf("just %d parts", turned)
	}
}

// Nil and empty lists are the same.
func TestEmptyLists(t *testing.T) {
	scope := api.Scope{Uids: []api.Uid{}}
	p := api.Policy{Principal: scope, Action: scope, Resource: scope, Conds: []api.Cond{{Expr: api.Expr{Names: []string{}, Kids: []api.Expr{}}}}}
	attrs := []api.Attr{{Type: api.Type{Of: []api.Type{}, Attrs: []api.Attr{}}}}
	x := api.Schema{Types: []api.EntityType{{Parents: []string{}, Attrs: attrs}}, Actions: []api.Action{{Principals: []string{}, Resources: []string{}, Context: attrs}}}
	e := api.Entity{Parents: []api.Uid{}, Attrs: api.Value{Names: []string{}, List: []api.Value{}}}
	for _, s := range []api.State{
		{Schema: x, Policies: []api.Named{{Policy: p}}, Entities: []api.Entity{e}},
		{Schema: api.Schema{Types: []api.EntityType{}, Actions: []api.Action{}}, Policies: []api.Named{}, Entities: []api.Entity{}},
	} {
		if !alike.State(s, fresh.State(s)) || !alike.State(fresh.State(s), s) {
			t.Errorf("%v", s)
		}
	}
}
