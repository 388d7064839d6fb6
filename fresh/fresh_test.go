package fresh_test

import (
	"reflect"
	"testing"

	"lictor/api"
	"lictor/fresh"
)

// value is one with lists within lists, of which two are the same memory.
func value() api.Value {
	inner := api.Value{Kind: api.KindSet, List: []api.Value{{Kind: api.KindLong, N: 1}, {Kind: api.KindString, S: "s"}}}
	return api.Value{Kind: api.KindRecord, Names: []string{"a", "b"}, List: []api.Value{inner, inner}}
}

func row() []api.Entity {
	one := api.Entity{Uid: api.Uid{Type: "A", Id: "x"}, Parents: []api.Uid{{Type: "B", Id: "y"}}, Attrs: value()}
	return []api.Entity{one, one}
}

// A copy is as what it is of, and stays so, whatever is done with that.
func TestCopies(t *testing.T) {
	names, v, l := []string{"a", "b"}, value(), row()
	e := l[0]
	if n := fresh.List(names); !reflect.DeepEqual(n, names) || &n[0] == &names[0] {
		t.Errorf("%v", n)
	}
	w, f, m := fresh.Value(v), fresh.Entity(e), fresh.Entities(l)
	if !reflect.DeepEqual(w, v) || !reflect.DeepEqual(f, e) || !reflect.DeepEqual(m, l) {
		t.Errorf("%v, %v, %v", w, f, m)
	}
	m[0].Parents[0].Id, m[0].Attrs.Names[0], m[0].Attrs.List[0].List[0].N = "spoilt", "spoilt", 7
	if !reflect.DeepEqual(m[1], f) || m[0].Attrs.List[1].List[0].N != 1 {
		t.Error("two lists of a copy share memory")
	}
	v.Names[0], v.List[0].List[0].N = "spoilt", 7
	e.Parents[0].Id, e.Attrs.Names[0], e.Attrs.List[0].List[0].N = "spoilt", "spoilt", 7
	l[0].Uid.Id = "spoilt"
	if !reflect.DeepEqual(w, value()) || !reflect.DeepEqual(f, row()[0]) {
		t.Error("a copy shares memory")
	}
}

// Empty lists of copies are nil.
func TestEmptyLists(t *testing.T) {
	v := fresh.Value(api.Value{Names: []string{}, List: []api.Value{}})
	e := fresh.Entity(api.Entity{Parents: []api.Uid{}})
	if fresh.List([]string{}) != nil || v.Names != nil || v.List != nil || e.Parents != nil || fresh.Entities([]api.Entity{}) != nil {
		t.Error("an empty list is not nil")
	}
}
