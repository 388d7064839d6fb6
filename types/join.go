package types

import (
	"lictor/api"
)

// entityOf is the type of entities of a type, or of any type, if it has no name.
func entityOf(name string) api.Type {
	return api.Type{Kind: api.TypeEntity, Name: name}
}

// setOf is the type of sets of parts of a type.
func setOf(t api.Type) api.Type {
	return api.Type{Kind: api.TypeSet, Of: []api.Type{t}}
}

// recordOf is the type of records of attributes.
func recordOf(l []api.Attr) api.Type {
	return api.Type{Kind: api.TypeRecord, Attrs: l}
}

// Join is the type that two types are together.
func Join(a, b api.Type) (api.Type, api.Errno) {
	switch {
	case a.Kind == api.TypeNever:
		return trimmed(b), api.OK
	case b.Kind == api.TypeNever:
		return trimmed(a), api.OK
	case a.Kind != b.Kind:
		return api.Type{}, api.ErrType
	}
	switch a.Kind {
	case api.TypeBool, api.TypeLong, api.TypeString:
		return api.Type{Kind: a.Kind}, api.OK
	case api.TypeEntity:
		if a.Name != b.Name {
			return entityOf(""), api.OK
		}
		return entityOf(a.Name), api.OK
	case api.TypeSet:
		of, why := Join(partOf(a), partOf(b))
		if why != api.OK {
			return api.Type{}, why
		}
		return setOf(of), api.OK
	case api.TypeRecord:
		return joinRecords(a.Attrs, b.Attrs)
	}
	return api.Type{}, api.ErrType
}

// joinRecords is the type that two records' types are together, if they have the same names.
func joinRecords(a, b []api.Attr) (api.Type, api.Errno) {
	if len(a) != len(b) {
		return api.Type{}, api.ErrType
	}
	var l []api.Attr
	for i := range a {
		t, why := Join(a[i].Type, b[i].Type)
		if a[i].Name != b[i].Name || why != api.OK {
			return api.Type{}, api.ErrType
		}
		l = append(l, api.Attr{Name: a[i].Name, Type: t})
	}
	return recordOf(l), api.OK
}

// partOf is the type of a set's parts: of a set's type that does not say it, none.
func partOf(t api.Type) api.Type {
	if len(t.Of) == 0 {
		return api.Type{Kind: api.TypeNever}
	}
	return t.Of[0]
}

// trimmed is a type in new memory, without what its kind has not.
func trimmed(t api.Type) api.Type {
	switch t.Kind {
	case api.TypeEntity:
		return entityOf(t.Name)
	case api.TypeSet:
		return setOf(trimmed(partOf(t)))
	case api.TypeRecord:
		var l []api.Attr
		for _, a := range t.Attrs {
			l = append(l, api.Attr{Name: a.Name, Type: trimmed(a.Type)})
		}
		return recordOf(l)
	}
	return api.Type{Kind: t.Kind}
}
