// Package fresh has plain data in new memory, for answers that may share none; an empty list of it is nil, so that copies of what is alike are alike, too.
package fresh

import (
	"lictor/api"
)

// List is a list of texts, Uids or other parts that have no lists of their own.
func List[T comparable](l []T) []T {
	return append([]T(nil), l...)
}

// Value is a value, all its parts among it.
func Value(v api.Value) api.Value {
	v.Names = List(v.Names)
	v.List = append([]api.Value(nil), v.List...)
	for i := range v.List {
		v.List[i] = Value(v.List[i])
	}
	return v
}

// Entity is an entity.
func Entity(e api.Entity) api.Entity {
	e.Parents = List(e.Parents)
	e.Attrs = Value(e.Attrs)
	return e
}

// Entities are entities in a row.
func Entities(l []api.Entity) []api.Entity {
	l = append([]api.Entity(nil), l...)
	for i := range l {
		l[i] = Entity(l[i])
	}
	return l
}
