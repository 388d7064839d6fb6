package schema

import (
	"lictor/api"
	"lictor/token"
	"lictor/value"
)

// CheckType tells why a type is not right.
func CheckType(t api.Type) api.Errno {
	switch {
	case !typeRight(t):
		return api.ErrType
	case deep(t) > api.MaxNest:
		return api.ErrDepth
	}
	return api.OK
}

// typeRight tells whether all of a type is right, however deep it is nested.
func typeRight(t api.Type) bool {
	if !fieldsRight(t) {
		return false
	}
	for _, of := range t.Of {
		if !typeRight(of) {
			return false
		}
	}
	for _, a := range t.Attrs {
		if !typeRight(a.Type) {
			return false
		}
	}
	return true
}

// fieldsRight tells whether a type has a kind, and just what its kind has.
func fieldsRight(t api.Type) bool {
	right := true
	// rest is what is left of the type without the fields of its kind.
	rest := t
	switch t.Kind {
	case api.TypeNever, api.TypeBool, api.TypeLong, api.TypeString:
	case api.TypeEntity:
		right = value.TypeName(t.Name)
		rest.Name = ""
	case api.TypeSet:
		right = len(t.Of) == 1
		rest.Of = nil
	case api.TypeRecord:
		right = attrsRight(t.Attrs)
		rest.Attrs = nil
	default:
		right = false
	}
	return right && rest.Name == "" && len(rest.Of) == 0 && len(rest.Attrs) == 0
}

// attrsRight tells whether attributes are in order, not too many, and named as they may be.
func attrsRight(l []api.Attr) bool {
	if len(l) > api.MaxParts {
		return false
	}
	for _, a := range l {
		if !attrName(a.Name) {
			return false
		}
	}
	return rising(l, nameOfAttr)
}

// attrName tells whether s may be an attribute's name.
func attrName(s string) bool {
	_, why := token.Quote(s)
	return why == api.OK && s != "" && len(s) <= api.MaxId
}

// deep is how deep a type is nested.
func deep(t api.Type) int {
	most := 0
	for _, of := range t.Of {
		most = max(most, deep(of))
	}
	for _, a := range t.Attrs {
		most = max(most, deep(a.Type))
	}
	return most + 1
}
