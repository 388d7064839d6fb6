// Package alike tells whether states are the same, in whatever memory they are; nil and empty lists are.
package alike

import (
	"slices"

	"lictor/api"
)

// State tells whether two states are the same.
func State(a, b api.State) bool {
	return schema(a.Schema, b.Schema) && slices.EqualFunc(a.Policies, b.Policies, named) && slices.EqualFunc(a.Entities, b.Entities, entity)
}

func schema(a, b api.Schema) bool {
	return slices.EqualFunc(a.Types, b.Types, entityType) && slices.EqualFunc(a.Actions, b.Actions, action)
}

func entityType(a, b api.EntityType) bool {
	return a.Name == b.Name && slices.Equal(a.Parents, b.Parents) && slices.EqualFunc(a.Attrs, b.Attrs, attr)
}

func action(a, b api.Action) bool {
	return a.Id == b.Id && slices.Equal(a.Principals, b.Principals) && slices.Equal(a.Resources, b.Resources) && slices.EqualFunc(a.Context, b.Context, attr)
}

func attr(a, b api.Attr) bool {
	return a.Name == b.Name && kind(a.Type, b.Type)
}

// kind is of types of values.
func kind(a, b api.Type) bool {
	return a.Kind == b.Kind && a.Name == b.Name && slices.EqualFunc(a.Of, b.Of, kind) && slices.EqualFunc(a.Attrs, b.Attrs, attr)
}

func named(a, b api.Named) bool {
	return a.Id == b.Id && policy(a.Policy, b.Policy)
}

func policy(a, b api.Policy) bool {
	return a.Permit == b.Permit && scope(a.Principal, b.Principal) && scope(a.Action, b.Action) && scope(a.Resource, b.Resource) && slices.EqualFunc(a.Conds, b.Conds, cond)
}

func scope(a, b api.Scope) bool {
	return a.Kind == b.Kind && a.Type == b.Type && slices.Equal(a.Uids, b.Uids)
}

func cond(a, b api.Cond) bool {
	return a.Unless == b.Unless && expr(a.Expr, b.Expr)
}

func expr(a, b api.Expr) bool {
	return a.Op == b.Op && a.N == b.N && a.S == b.S && a.T == b.T && slices.Equal(a.Names, b.Names) && slices.EqualFunc(a.Kids, b.Kids, expr)
}

func entity(a, b api.Entity) bool {
	return a.Uid == b.Uid && slices.Equal(a.Parents, b.Parents) && value(a.Attrs, b.Attrs)
}

func value(a, b api.Value) bool {
	return a.Kind == b.Kind && a.B == b.B && a.N == b.N && a.S == b.S && a.T == b.T && slices.Equal(a.Names, b.Names) && slices.EqualFunc(a.List, b.List, value)
}
