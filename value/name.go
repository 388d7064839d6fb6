package value

import (
	"strings"
	"unicode/utf8"

	"lictor/api"
)

// Name tells whether s is a name.
func Name(s string) bool {
	if s == "" || len(s) > api.MaxId || digit(s[0]) || reserved(s) {
		return false
	}
	for i := range len(s) {
		if !digit(s[i]) && !letter(s[i]) && s[i] != '_' {
			return false
		}
	}
	return true
}

func digit(b byte) bool {
	return '0' <= b && b <= '9'
}

func letter(b byte) bool {
	return 'A' <= b && b <= 'Z' || 'a' <= b && b <= 'z'
}

// reserved tells whether s is a word that means something by itself.
func reserved(s string) bool {
	switch s {
	case "true", "false", "if", "then", "else", "in", "has", "is", "like",
		"permit", "forbid", "when", "unless",
		"principal", "action", "resource", "context",
		"entity", "appliesTo":
		return true
	}
	return false
}

// TypeName tells whether s is a type's name.
func TypeName(s string) bool {
	if len(s) > api.MaxId {
		return false
	}
	for _, name := range strings.Split(s, "::") {
		if !Name(name) {
			return false
		}
	}
	return true
}

// CheckUid tells why a Uid is not right.
func CheckUid(u api.Uid) api.Errno {
	switch {
	case !TypeName(u.Type):
		return api.ErrSyntax
	case !utf8.ValidString(u.Id):
		return api.ErrUtf
	case len(u.Id) > api.MaxId:
		return api.ErrLong
	}
	return api.OK
}
