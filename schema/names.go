package schema

import (
	"slices"

	"lictor/api"
)

// How types, actions, attributes and names themselves are named.

func nameOfType(t api.EntityType) string { return t.Name }

func idOfAction(a api.Action) string { return a.Id }

func nameOfAttr(a api.Attr) string { return a.Name }

func itself(s string) string { return s }

// rising tells whether the name of each one of a list is below the next one's.
func rising[T any](l []T, name func(T) string) bool {
	for i := 1; i < len(l); i++ {
		if name(l[i-1]) >= name(l[i]) {
			return false
		}
	}
	return true
}

// twice tells whether two of a list have one name.
func twice[T any](l []T, name func(T) string) bool {
	seen := map[string]int{}
	for _, one := range l {
		seen[name(one)]++
	}
	return len(seen) < len(l)
}

// find is the first one of a list that has a name.
func find[T any](l []T, name func(T) string, s string) (T, bool) {
	i := slices.IndexFunc(l, func(one T) bool { return name(one) == s })
	if i < 0 {
		var none T
		return none, false
	}
	return l[i], true
}

// checkNames tells what is met first in a schema, all else of which is right: a name that is none of its types, or a TypeNever.
func checkNames(x api.Schema) api.Errno {
	for _, t := range x.Types {
		if !known(x, t.Parents) {
			return api.ErrUnknown
		}
		if why := checkAttrs(x, t.Attrs); why != api.OK {
			return why
		}
	}
	for _, a := range x.Actions {
		if !known(x, a.Principals) || !known(x, a.Resources) {
			return api.ErrUnknown
		}
		if why := checkAttrs(x, a.Context); why != api.OK {
			return why
		}
	}
	return api.OK
}

// known tells whether all names of a list are those of a schema's types.
func known(x api.Schema, l []string) bool {
	for _, s := range l {
		if _, there := find(x.Types, nameOfType, s); !there {
			return false
		}
	}
	return true
}

// checkAttrs tells what is met first in attributes.
func checkAttrs(x api.Schema, l []api.Attr) api.Errno {
	for _, a := range l {
		if why := checkWithin(x, a.Type); why != api.OK {
			return why
		}
	}
	return api.OK
}

// checkWithin tells what is met first in a type.
func checkWithin(x api.Schema, t api.Type) api.Errno {
	switch t.Kind {
	case api.TypeNever:
		return api.ErrType
	case api.TypeEntity:
		if t.Name != actionName && !known(x, []string{t.Name}) {
			return api.ErrUnknown
		}
	case api.TypeSet:
		return checkWithin(x, t.Of[0])
	case api.TypeRecord:
		return checkAttrs(x, t.Attrs)
	}
	return api.OK
}
