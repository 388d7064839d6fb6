package conform

import (
	"iter"
	"slices"

	"lictor/api"
	"lictor/entity"
	"lictor/schema"
)

// world is a schema and entities in a row, all of it right.
type world struct {
	schema   api.Schema
	entities []api.Entity
}

// has tells whether somebody is there.
func (w world) has(u api.Uid) bool {
	if u.Type == actionName {
		_, why := schema.Action(w.schema, u.Id)
		return why == api.OK
	}
	// Not by entity.Find, which would check the whole row each time.
	return slices.ContainsFunc(w.entities, func(e api.Entity) bool { return e.Uid == u })
}

// hasWithin tells whether all entities within a value are there, if those of some Uids are.
func (w world) hasWithin(v api.Value, others ...api.Uid) bool {
	for u := range within(v) {
		if !w.has(u) && !slices.Contains(others, u) {
			return false
		}
	}
	return true
}

// entity tells why an entity does not fit.
func (w world) entity(e api.Entity) api.Errno {
	if why := entity.Check(e); why != api.OK {
		return why
	}
	t, why := schema.Type(w.schema, e.Uid.Type)
	if why != api.OK {
		return why
	}
	for _, u := range e.Parents {
		if !slices.Contains(t.Parents, u.Type) {
			return api.ErrType
		}
	}
	if !fits(e.Attrs, t.Attrs) {
		return api.ErrType
	}
	for _, u := range e.Parents {
		if !w.has(u) {
			return api.ErrMissing
		}
	}
	if !w.hasWithin(e.Attrs, e.Uid) {
		return api.ErrMissing
	}
	return api.OK
}

// within yields the entities within a value, from the left.
func within(v api.Value) iter.Seq[api.Uid] {
	return func(yield func(api.Uid) bool) {
		walk(v, yield)
	}
}

// walk yields the entities within a value, and tells whether more may be yielded.
func walk(v api.Value, yield func(api.Uid) bool) bool {
	if v.Kind == api.KindEntity && !yield(api.Uid{Type: v.T, Id: v.S}) {
		return false
	}
	for _, part := range v.List {
		if !walk(part, yield) {
			return false
		}
	}
	return true
}
