package types

import (
	"slices"
	"strings"

	"lictor/api"
	"lictor/schema"
)

// need is what a Kid must be.
type need int

const (
	anything need = iota
	aBool
	aLong
	aString
	aSet
	anEntity
	anOwner // what may have attributes: a record, or an entity
	among   // what somebody may be in: an entity, or a set of entities, or of nothing
)

// met tells whether a type is what a need asks.
func (n need) met(t api.Type) bool {
	switch n {
	case aBool:
		return t.Kind == api.TypeBool
	case aLong:
		return t.Kind == api.TypeLong
	case aString:
		return t.Kind == api.TypeString
	case aSet:
		return t.Kind == api.TypeSet
	case anEntity:
		return t.Kind == api.TypeEntity
	case anOwner:
		return t.Kind == api.TypeRecord || t.Kind == api.TypeEntity
	case among:
		if t.Kind == api.TypeSet {
			t = partOf(t)
			return t.Kind == api.TypeEntity || t.Kind == api.TypeNever
		}
		return t.Kind == api.TypeEntity
	}
	return true
}

// rule is what an operator's Kids must be, and of which kind what it does then is.
type rule struct {
	gives api.TypeKind
	kids  []need
}

// rules has the rule of each operator whose type does not hang on those of its Kids.
func rules() map[api.Op]rule {
	both := func(n need) []need { return []need{n, n} }
	return map[api.Op]rule{
		api.OpBool: {api.TypeBool, nil}, api.OpLong: {api.TypeLong, nil}, api.OpString: {api.TypeString, nil},
		api.OpHas: {api.TypeBool, []need{anOwner}}, api.OpIs: {api.TypeBool, []need{anEntity}}, api.OpLike: {api.TypeBool, []need{aString}},
		api.OpNot: {api.TypeBool, []need{aBool}}, api.OpNeg: {api.TypeLong, []need{aLong}},
		api.OpAnd: {api.TypeBool, both(aBool)}, api.OpOr: {api.TypeBool, both(aBool)},
		api.OpEqual: {api.TypeBool, both(anything)}, api.OpUnlike: {api.TypeBool, both(anything)},
		api.OpLess: {api.TypeBool, both(aLong)}, api.OpMost: {api.TypeBool, both(aLong)}, api.OpMore: {api.TypeBool, both(aLong)}, api.OpLeast: {api.TypeBool, both(aLong)},
		api.OpIn:  {api.TypeBool, []need{anEntity, among}},
		api.OpAdd: {api.TypeLong, both(aLong)}, api.OpSub: {api.TypeLong, both(aLong)}, api.OpMul: {api.TypeLong, both(aLong)},
		api.OpContains: {api.TypeBool, []need{aSet, anything}}, api.OpAll: {api.TypeBool, both(aSet)}, api.OpAny: {api.TypeBool, both(aSet)},
	}
}

// apply is what an operator gives of Kids of types, which are as many as it has.
func (r rule) apply(kids []api.Type) (api.Type, api.Errno) {
	for i, n := range r.kids {
		if !n.met(kids[i]) {
			return api.Type{}, api.ErrType
		}
	}
	return api.Type{Kind: r.gives}, api.OK
}

// basis is by what expressions have types, all of it right; what its methods have shares its memory.
type basis struct {
	schema api.Schema
	env    api.Env
	rules  map[api.Op]rule
}

// typeOf is an expression's type.
func (b basis) typeOf(e api.Expr) (api.Type, api.Errno) {
	var kids []api.Type
	for _, k := range e.Kids {
		t, why := b.typeOf(k)
		if why != api.OK {
			return api.Type{}, why
		}
		kids = append(kids, t)
	}
	switch e.Op {
	case api.OpEntity:
		return b.entity(api.Uid{Type: e.T, Id: e.S})
	case api.OpVar:
		return b.variable(e.S), api.OK
	case api.OpSet:
		return setTogether(kids)
	case api.OpRecord:
		return record(e.Names, kids), api.OK
	case api.OpAttr:
		return b.attr(kids[0], e.S)
	case api.OpIf:
		return choice(kids)
	}
	return b.rules[e.Op].apply(kids)
}

// entity is the type of an entity that is named.
func (b basis) entity(u api.Uid) (api.Type, api.Errno) {
	var why api.Errno
	if u.Type == actionName {
		_, why = schema.Action(b.schema, u.Id)
	} else {
		_, why = schema.Type(b.schema, u.Type)
	}
	if why != api.OK {
		return api.Type{}, why
	}
	return entityOf(u.Type), api.OK
}

// variable is the type of a part of the request.
func (b basis) variable(name string) api.Type {
	switch name {
	case "principal":
		return entityOf(b.env.Principal)
	case "action":
		return entityOf(actionName)
	case "resource":
		return entityOf(b.env.Resource)
	}
	return recordOf(b.env.Context)
}

// setTogether is the type of a set of parts.
func setTogether(parts []api.Type) (api.Type, api.Errno) {
	of := api.Type{Kind: api.TypeNever}
	for _, part := range parts {
		t, why := Join(of, part)
		if why != api.OK {
			return api.Type{}, why
		}
		of = t
	}
	return setOf(of), api.OK
}

// record is the type of a record of parts by their names, as many.
func record(names []string, parts []api.Type) api.Type {
	var l []api.Attr
	for i, name := range names {
		l = append(l, api.Attr{Name: name, Type: parts[i]})
	}
	slices.SortFunc(l, func(a, b api.Attr) int { return strings.Compare(a.Name, b.Name) })
	return recordOf(l)
}

// attr is the type of an owner's attribute.
func (b basis) attr(owner api.Type, name string) (api.Type, api.Errno) {
	l := owner.Attrs
	switch {
	case owner.Kind == api.TypeEntity && owner.Name != "":
		// A type that the schema has not, as Action, has no attributes.
		t, _ := schema.Type(b.schema, owner.Name)
		l = t.Attrs
	case owner.Kind != api.TypeRecord:
		return api.Type{}, api.ErrType
	}
	i := slices.IndexFunc(l, func(a api.Attr) bool { return a.Name == name })
	if i < 0 {
		return api.Type{}, api.ErrMissing
	}
	return l[i].Type, api.OK
}

// choice is the type of an if.
func choice(kids []api.Type) (api.Type, api.Errno) {
	if !aBool.met(kids[0]) {
		return api.Type{}, api.ErrType
	}
	return Join(kids[1], kids[2])
}
