package schema

import (
	"cmp"
	"slices"

	"lictor/api"
	"lictor/reading"
)

// Parse reads a schema from a text.
func Parse(s string) (api.Schema, api.Errno, int) {
	l, why, place := reading.New(s)
	if why != api.OK {
		return api.Schema{}, why, place
	}
	r := reader{Reader: l}
	r.parts()
	if r.Wrong() {
		return api.Schema{}, api.ErrSyntax, r.Place()
	}
	if r.twice {
		return api.Schema{}, api.ErrTwice, 0
	}
	if why := Check(r.schema); why != api.OK {
		return api.Schema{}, why, 0
	}
	return r.schema, api.OK, 0
}

// reader reads a schema's parts; twice tells whether a list that was read has a name twice.
type reader struct {
	reading.Reader
	schema api.Schema
	twice  bool
}

// parts reads all types and actions.
func (r *reader) parts() {
	readers := map[string]func(){"entity": r.entityType, "action": r.action}
	for read := readers[r.Word()]; read != nil; read = readers[r.Word()] {
		read()
	}
	r.Close()
}

func (r *reader) entityType() {
	r.Must("entity")
	t := api.EntityType{Name: r.TypeName()}
	if r.Took("in") {
		t.Parents = r.names()
	}
	r.Must("{")
	t.Attrs = r.attrs()
	r.Must(";")
	r.schema.Types = append(r.schema.Types, t)
}

func (r *reader) action() {
	r.Must("action")
	a := api.Action{Id: r.Text()}
	r.Must("appliesTo")
	r.Must("{")
	r.field("principal")
	a.Principals = r.names()
	r.Must(",")
	r.field("resource")
	a.Resources = r.names()
	r.Must(",")
	r.field("context")
	r.Must("{")
	a.Context = r.attrs()
	r.Must("}")
	r.Must(";")
	r.schema.Actions = append(r.schema.Actions, a)
}

// field reads how one of an action's lists is called.
func (r *reader) field(name string) {
	r.Must(name)
	r.Must(":")
}

// names reads a list of types' names; it has them in order.
func (r *reader) names() []string {
	var l []string
	r.Must("[")
	r.Any("]", func() { l = append(l, r.TypeName()) })
	r.twice = ordered(l, itself) || r.twice
	return l
}

// attrs reads attributes behind the bracket that begins them; it has them in order.
func (r *reader) attrs() []api.Attr {
	var l []api.Attr
	r.Any("}", func() {
		a := api.Attr{Name: r.Label()}
		r.Must(":")
		a.Type = r.kind()
		l = append(l, a)
	})
	r.twice = ordered(l, nameOfAttr) || r.twice
	return l
}

// kind reads a type.
func (r *reader) kind() api.Type {
	if r.Took("{") {
		return record(r.attrs())
	}
	// A type's name may begin with a word that means something else alone.
	switch name := r.TypeName(); name {
	case boolName:
		return api.Type{Kind: api.TypeBool}
	case longName:
		return api.Type{Kind: api.TypeLong}
	case stringName:
		return api.Type{Kind: api.TypeString}
	case setName:
		r.Must("<")
		of := r.kind()
		r.Must(">")
		return api.Type{Kind: api.TypeSet, Of: []api.Type{of}}
	default:
		return api.Type{Kind: api.TypeEntity, Name: name}
	}
}

// ordered puts a list in order by name, and tells whether two of it have one name.
func ordered[T any](l []T, name func(T) string) bool {
	slices.SortFunc(l, func(a, b T) int { return cmp.Compare(name(a), name(b)) })
	return twice(l, name)
}
