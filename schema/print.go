package schema

import (
	"strings"

	"lictor/api"
	"lictor/token"
)

// Print writes a schema.
func Print(x api.Schema) (string, api.Errno) {
	if why := Check(x); why != api.OK {
		return "", why
	}
	var b strings.Builder
	for _, t := range x.Types {
		b.WriteString("entity " + t.Name + " in " + namesText(t.Parents) + " " + attrsText(t.Attrs) + ";\n")
	}
	for _, a := range x.Actions {
		b.WriteString("action " + quoted(a.Id) + " appliesTo {principal: " + namesText(a.Principals) + ", resource: " + namesText(a.Resources) + ", context: " + attrsText(a.Context) + "};\n")
	}
	return b.String(), api.OK
}

// ShowType writes a type.
func ShowType(t api.Type) (string, api.Errno) {
	if why := CheckType(t); why != api.OK {
		return "", why
	}
	if hasNever(t) {
		return "", api.ErrType
	}
	return typeText(t), api.OK
}

// hasNever tells whether a TypeNever is within a type.
func hasNever(t api.Type) bool {
	never := t.Kind == api.TypeNever
	for _, of := range t.Of {
		never = never || hasNever(of)
	}
	for _, a := range t.Attrs {
		never = never || hasNever(a.Type)
	}
	return never
}

// typeText writes a right type without a TypeNever.
func typeText(t api.Type) string {
	switch t.Kind {
	case api.TypeBool:
		return boolName
	case api.TypeLong:
		return longName
	case api.TypeString:
		return stringName
	case api.TypeSet:
		return setName + "<" + typeText(t.Of[0]) + ">"
	case api.TypeRecord:
		return attrsText(t.Attrs)
	}
	return t.Name
}

// attrsText writes right attributes, with the brackets around them.
func attrsText(l []api.Attr) string {
	var parts []string
	for _, a := range l {
		parts = append(parts, quoted(a.Name)+": "+typeText(a.Type))
	}
	return "{" + strings.Join(parts, ", ") + "}"
}

// namesText writes names, with the brackets around them.
func namesText(l []string) string {
	return "[" + strings.Join(l, ", ") + "]"
}

// quoted is the string that stands for what is right in a schema.
func quoted(s string) string {
	text, _ := token.Quote(s)
	return text
}
