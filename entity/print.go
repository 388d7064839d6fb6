package entity

import (
	"math"
	"strconv"
	"strings"

	"lictor/api"
	"lictor/token"
	"lictor/value"
)

// Print writes an entity.
func Print(e api.Entity) (string, api.Errno) {
	if why := Check(e); why != api.OK {
		return "", why
	}
	var parents []string
	for _, u := range e.Parents {
		parents = append(parents, uidText(u))
	}
	return uidText(e.Uid) + " in [" + list(parents) + "] " + valueText(e.Attrs) + ";", api.OK
}

// ShowValue writes a value.
func ShowValue(v api.Value) (string, api.Errno) {
	if why := value.Check(v); why != api.OK {
		return "", why
	}
	return valueText(v), api.OK
}

// valueText writes a right value.
func valueText(v api.Value) string {
	switch v.Kind {
	case api.KindBool:
		return strconv.FormatBool(v.B)
	case api.KindLong:
		return longText(v.N)
	case api.KindString:
		return quoted(v.S)
	case api.KindEntity:
		return uidText(api.Uid{Type: v.T, Id: v.S})
	}
	var parts []string
	for i, p := range v.List {
		text := valueText(p)
		if v.Kind == api.KindRecord {
			text = label(v.Names[i]) + ": " + text
		}
		parts = append(parts, text)
	}
	if v.Kind == api.KindRecord {
		return "{" + list(parts) + "}"
	}
	return "[" + list(parts) + "]"
}

// longText writes a long.
func longText(n int64) string {
	if n == math.MinInt64 {
		// No long is as great as this one is without its sign.
		return "(" + longText(n+1) + " - 1)"
	}
	return strconv.FormatInt(n, 10)
}

// list writes parts with commas between.
func list(parts []string) string {
	return strings.Join(parts, ", ")
}

func uidText(u api.Uid) string {
	return u.Type + "::" + quoted(u.Id)
}

// label is an attribute's name, as a string if it is no name.
func label(s string) string {
	if value.Name(s) {
		return s
	}
	return quoted(s)
}

// quoted is the string that stands for what is right in a value.
func quoted(s string) string {
	text, _ := token.Quote(s)
	return text
}
