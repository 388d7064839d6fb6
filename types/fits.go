package types

import (
	"slices"

	"lictor/api"
)

// Fits tells whether a value is of a type.
func Fits(v api.Value, t api.Type) bool {
	switch t.Kind {
	case api.TypeBool:
		return v.Kind == api.KindBool
	case api.TypeLong:
		return v.Kind == api.KindLong
	case api.TypeString:
		return v.Kind == api.KindString
	case api.TypeEntity:
		return v.Kind == api.KindEntity && (t.Name == "" || v.T == t.Name)
	case api.TypeSet:
		return v.Kind == api.KindSet && partsFit(v.List, partOf(t))
	case api.TypeRecord:
		return v.Kind == api.KindRecord && attrsFit(v, t.Attrs)
	}
	return false
}

// partsFit tells whether all of a list are of a type.
func partsFit(l []api.Value, t api.Type) bool {
	return !slices.ContainsFunc(l, func(v api.Value) bool { return !Fits(v, t) })
}

// attrsFit tells whether a record has just the attributes of a list, each of its type.
func attrsFit(v api.Value, l []api.Attr) bool {
	if !slices.EqualFunc(v.Names, l, func(name string, a api.Attr) bool { return name == a.Name }) {
		return false
	}
	// A hand-made record may have more names than parts, or fewer.
	for i := range min(len(v.List), len(l)) {
		if !Fits(v.List[i], l[i].Type) {
			return false
		}
	}
	return true
}
