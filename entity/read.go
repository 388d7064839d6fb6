package entity

import (
	"slices"

	"lictor/api"
	"lictor/reading"
)

// Parse reads an entity from a text.
func Parse(s string) (api.Entity, api.Errno, int) {
	r, why, place := reading.New(s)
	if why != api.OK {
		return api.Entity{}, why, place
	}
	e := head(&r)
	attrs, why, place := r.Record()
	if why != api.OK {
		return api.Entity{}, why, place
	}
	r.Must(";")
	r.Close()
	if r.Wrong() {
		return api.Entity{}, api.ErrSyntax, r.Place()
	}
	if why := complete(&e, attrs); why != api.OK {
		return api.Entity{}, why, 0
	}
	return e, api.OK, 0
}

// head reads what stands ahead of an entity's attributes.
func head(r *reading.Reader) api.Entity {
	e := api.Entity{Uid: r.Uid()}
	if r.Took("in") {
		r.Must("[")
		r.Any("]", func() { e.Parents = append(e.Parents, r.Uid()) })
	}
	return e
}

// complete gives an entity that was read its attributes, and puts its Parents in order; it tells why it is not right then.
func complete(e *api.Entity, attrs api.Expr) api.Errno {
	v, why := Value(attrs)
	if why != api.OK {
		return why
	}
	if twice(e.Parents) {
		return api.ErrTwice
	}
	e.Attrs = v
	slices.SortFunc(e.Parents, compare)
	return Check(*e)
}
