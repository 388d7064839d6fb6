// Package fresh has plain data in new memory, for answers that may share none; an empty list of it is nil, so that copies of what is alike are alike, too.
package fresh

import (
	"lictor/api"
)

// List is a list of texts, Uids or other parts that have no lists of their own.
func List[T comparable](l []T) []T {
	return append([]T(nil), l...)
}

// each is a list of parts, each one in new memory as its own kind is.
func each[T any](l []T, part func(T) T) []T {
	l = append([]T(nil), l...)
	for i := range l {
		l[i] = part(l[i])
	}
	return l
}

// Value is a value, all its parts among it.
func Value(v api.Value) api.Value {
	v.Names = List(v.Names)
	v.List = each(v.List, Value)
	return v
}

// Entity is an entity.
func Entity(e api.Entity) api.Entity {
	e.Parents = List(e.Parents)
	e.Attrs = Value(e.Attrs)
	return e
}

// Entities are entities in a row.
func Entities(l []api.Entity) []api.Entity {
	return each(l, Entity)
}

// Expr is an expression, all its Kids among it.
func Expr(e api.Expr) api.Expr {
	e.Names = List(e.Names)
	e.Kids = each(e.Kids, Expr)
	return e
}

// Policy is a policy.
func Policy(p api.Policy) api.Policy {
	p.Principal, p.Action, p.Resource = scope(p.Principal), scope(p.Action), scope(p.Resource)
	p.Conds = each(p.Conds, cond)
	return p
}

func scope(s api.Scope) api.Scope {
	s.Uids = List(s.Uids)
	return s
}

func cond(c api.Cond) api.Cond {
	c.Expr = Expr(c.Expr)
	return c
}

// Policies are policies in a row.
func Policies(l []api.Named) []api.Named {
	return each(l, named)
}

func named(n api.Named) api.Named {
	n.Policy = Policy(n.Policy)
	return n
}

// Schema is a schema.
func Schema(x api.Schema) api.Schema {
	x.Types = each(x.Types, entityType)
	x.Actions = each(x.Actions, action)
	return x
}

func entityType(t api.EntityType) api.EntityType {
	t.Parents = List(t.Parents)
	t.Attrs = each(t.Attrs, attr)
	return t
}

func action(a api.Action) api.Action {
	a.Principals, a.Resources = List(a.Principals), List(a.Resources)
	a.Context = each(a.Context, attr)
	return a
}

func attr(a api.Attr) api.Attr {
	a.Type = kind(a.Type)
	return a
}

// kind is a type of values.
func kind(t api.Type) api.Type {
	t.Of = each(t.Of, kind)
	t.Attrs = each(t.Attrs, attr)
	return t
}

// State is a state.
func State(s api.State) api.State {
	return api.State{Schema: Schema(s.Schema), Policies: Policies(s.Policies), Entities: Entities(s.Entities)}
}

// Versions are versions.
func Versions(v api.Versions) api.Versions {
	v.States = each(v.States, State)
	v.Lists = each(v.Lists, List)
	return v
}

// Disk is a disk.
func Disk(d api.Disk) api.Disk {
	d.Sectors, d.Pending = List(d.Sectors), List(d.Pending)
	return d
}

// Store is a store.
func Store(s api.Store) api.Store {
	s.Disk, s.Versions = Disk(s.Disk), Versions(s.Versions)
	return s
}

// Server is a service.
func Server(s api.Server) api.Server {
	s.Store = Store(s.Store)
	s.Open = each(s.Open, tx)
	return s
}

func tx(t api.Tx) api.Tx {
	t.List = List(t.List)
	return t
}
