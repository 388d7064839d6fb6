package value_test

import (
	"regexp"
	"strings"
	"testing"

	"lictor/api"
	"lictor/value"
)

// words are those that are no names, though they look like some.
func words() []string {
	return strings.Fields("true false if then else in has is like permit forbid when unless principal action resource context entity appliesTo")
}

// nameLike is how a name looks.
var nameLike = regexp.MustCompile(`^[A-Za-z_][A-Za-z0-9_]*$`)

// isName tells whether s is a name as the chapter's words have it, told another way.
func isName(s string) bool {
	for _, w := range words() {
		if s == w {
			return false
		}
	}
	return len(s) <= 64 && nameLike.MatchString(s)
}

// Words, and promise 6.1 of Name: ordinary ones, those of one byte and of two, and those at the limit.
func TestNames(t *testing.T) {
	for _, s := range []string{"a", "Z", "_", "__", "_0", "a1", "User", "has_", "_in", "True", "FALSE", "appliesto", "Entity", "contains", "containsAll", "Action", "permits", "tru", "truee", "Long", "x" + strings.Repeat("9", 63), strings.Repeat("_", 64)} {
		if !value.Name(s) {
			t.Errorf("%q is no name", s)
		}
	}
	wrong := []string{"", " ", "0", "1a", "a b", "a ", " a", "a-b", "a.b", "a::b", "::", "a:", "é", "aé", "ａ", "a\x00", "a\n", "a\xff", "\xc3", `"a"`, "@", "[", "`", "{", "/", ":", strings.Repeat("a", 65), strings.Repeat("a", 1<<20)}
	for _, s := range append(wrong, words()...) {
		if value.Name(s) {
			t.Errorf("%.80q is a name", s)
		}
	}
	for c := range 256 {
		for _, s := range []string{string([]byte{byte(c)}), string([]byte{'a', byte(c)}), string([]byte{byte(c), 'a'}), string([]byte{'a', byte(c), 'a'})} {
			if value.Name(s) != isName(s) {
				t.Errorf("Name(%q) is %t", s, value.Name(s))
			}
		}
	}
}

// Words, and promise 6.1 of TypeName: at most MaxId bytes together, what stands between the names among them.
func TestTypeNames(t *testing.T) {
	half := strings.Repeat("a", 31)
	for _, s := range []string{"User", "a::b", "a::b::c", "_::_0", "Action", "A1::B2::C3::D4", strings.Repeat("a", 64), half + "::" + half, strings.Repeat("a::", 21) + "b"} {
		if !value.TypeName(s) {
			t.Errorf("%q is no type's name", s)
		}
	}
	wrong := []string{"", "::", "a::", "::a", "a:::b", "a::::b", "a:b", ":a", "a:", "a:: b", "a ::b", "a::b ", "a::0", "0::a", "a::é", "a.b", "a::b:", strings.Repeat("a", 65), half + "::a" + half, strings.Repeat("a::", 21) + "bc", strings.Repeat("a::", 1<<18) + "a"}
	for _, w := range words() {
		wrong = append(wrong, w, w+"::a", "a::"+w, "a::"+w+"::b")
	}
	for _, s := range wrong {
		if value.TypeName(s) {
			t.Errorf("%.80q is a type's name", s)
		}
	}
}

// Promise 6.1 of CheckUid: the first error that applies.
func TestCheckUid(t *testing.T) {
	long := strings.Repeat("i", 65)
	for _, x := range []struct {
		kind, id string
		want     api.Errno
	}{
		{"User", "alice", api.OK},
		{"User", "", api.OK},
		{"A::B", "\x00\"\\\n*", api.OK},
		{"Action", "in", api.OK},
		{"User", long[1:], api.OK},
		{"User", strings.Repeat("é", 32), api.OK},
		{strings.Repeat("T", 64), "1", api.OK},
		{"", "a", api.ErrSyntax},
		{"", "", api.ErrSyntax},
		{"in", "a", api.ErrSyntax},
		{"User::", "a", api.ErrSyntax},
		{"A::context", "a", api.ErrSyntax},
		{strings.Repeat("T", 65), "1", api.ErrSyntax},
		{"1", "\xff", api.ErrSyntax},
		{"1", long, api.ErrSyntax},
		{"User", "\xff", api.ErrUtf},
		{"User", "a\xc3", api.ErrUtf},
		{"User", "\xed\xa0\x80", api.ErrUtf},
		{"User", "\xc0\x80", api.ErrUtf},
		{"User", long + "\x80", api.ErrUtf},
		{"User", long, api.ErrLong},
		{"User", strings.Repeat("é", 33), api.ErrLong},
		{"User", strings.Repeat("i", 1<<20), api.ErrLong},
	} {
		if why := value.CheckUid(api.Uid{Type: x.kind, Id: x.id}); why != x.want {
			t.Errorf("%.80q::%.80q: error %d, not %d", x.kind, x.id, why, x.want)
		}
	}
}
