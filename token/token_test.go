package token_test

import (
	"fmt"
	"math"
	"math/big"
	"math/rand"
	"regexp"
	"runtime"
	"slices"
	"strconv"
	"strings"
	"testing"
	"unicode/utf8"

	"lictor/api"
	"lictor/token"
)

func word(s string) api.Token { return api.Token{Kind: api.TokenWord, Text: s} }

func long(n int64) api.Token { return api.Token{Kind: api.TokenLong, N: n} }

func text(s string) api.Token { return api.Token{Kind: api.TokenString, Text: s} }

func sign(s string) api.Token { return api.Token{Kind: api.TokenSign, Text: s} }

// at is a token that begins at a byte.
func at(place int, t api.Token) api.Token {
	t.At = place
	return t
}

// row is any many tokens.
func row(l ...api.Token) []api.Token { return l }

// signs are all that chapter 7 lists.
func signs() []string {
	return strings.Fields("== != <= >= && || :: < > + - * ! ( ) [ ] { } , ; : .")
}

// oneOf is one of a list by chance.
func oneOf[T any](r *rand.Rand, l []T) T { return l[r.Intn(len(l))] }

// How blanks and tokens look: the chapter's words told another way.
var (
	blanksLike = regexp.MustCompile(`^([ \t\r\n]|//[^\n]*)*`)
	wordLike   = regexp.MustCompile(`^[A-Za-z_][A-Za-z0-9_]*`)
	digitsLike = regexp.MustCompile(`^[0-9]+`)
	longLike   = regexp.MustCompile(`^(0|[1-9][0-9]*)$`)
	textLike   = regexp.MustCompile(`^"([^"\\\n]|\\["\\nt0*])*"`)
	signLike   = regexp.MustCompile(`^(==|!=|<=|>=|&&|\|\||::|[-<>+*!()\[\]{},;:.])`)
	standsFor  = strings.NewReplacer(`\"`, `"`, `\\`, `\`, `\n`, "\n", `\t`, "\t", `\0`, "\x00", `\*`, `\*`)
)

// looked is the token with which s begins, and how many bytes it has, as the patterns have it.
func looked(s string) (api.Token, int, api.Errno) {
	if w := wordLike.FindString(s); w != "" {
		return word(w), len(w), api.OK
	}
	if d := digitsLike.FindString(s); d != "" {
		n, _ := new(big.Int).SetString(d, 10)
		if !longLike.MatchString(d) || !n.IsInt64() || wordLike.MatchString(s[len(d):]) {
			return api.Token{}, 0, api.ErrSyntax
		}
		return long(n.Int64()), len(d), api.OK
	}
	if q := textLike.FindString(s); q != "" {
		stands := standsFor.Replace(q[1 : len(q)-1])
		switch {
		case !utf8.ValidString(stands):
			return api.Token{}, 0, api.ErrUtf
		case len(stands) > 256:
			return api.Token{}, 0, api.ErrLong
		}
		return text(stands), len(q), api.OK
	}
	if g := signLike.FindString(s); g != "" {
		return sign(g), len(g), api.OK
	}
	return api.Token{}, 0, api.ErrSyntax
}

// cut is what Cut answers, as the patterns have it.
func cut(s string) ([]api.Token, api.Errno, int) {
	if len(s) > 2048 {
		return nil, api.ErrLong, 0
	}
	var l []api.Token
	place := len(blanksLike.FindString(s))
	for place < len(s) {
		t, size, why := looked(s[place:])
		if why != api.OK {
			return nil, why, place
		}
		l = append(l, at(place, t))
		place += size
		place += len(blanksLike.FindString(s[place:]))
	}
	return l, api.OK, 0
}

// asks holds what Cut answers of a text against the patterns.
func asks(t *testing.T, s string) {
	t.Helper()
	l, why, place := token.Cut(s)
	want, reason, there := cut(s)
	if !slices.Equal(l, want) || why != reason || place != there {
		t.Errorf("%.300q: %v, error %d at %d; not %v, error %d at %d", s, l, why, place, want, reason, there)
	}
}

// The sections Limits and Errors, as far as they speak of token.
func TestLimitsAndErrors(t *testing.T) {
	if api.MaxText != 2048 || api.MaxString != 256 {
		t.Error("a limit is another one")
	}
	if api.OK != 0 || api.ErrLong != 3 || api.ErrSyntax != 5 || api.ErrUtf != 6 {
		t.Error("an error's number is another one")
	}
	if api.TokenNone != 0 || api.TokenWord != 1 || api.TokenLong != 2 || api.TokenString != 3 || api.TokenSign != 4 || api.TokenCount != 5 {
		t.Error("a kind's number is another one")
	}
}

// Promise 7.1, example 1, and words: texts of all kinds of tokens.
func TestCut(t *testing.T) {
	for _, x := range []struct {
		s    string
		want []api.Token
	}{
		{"", nil},
		{" \t\r\n", nil},
		{"// all of it", nil},
		{"//", nil},
		{"// \xff \"", nil},
		{`a::"x\*" // y`, row(at(0, word("a")), at(1, sign("::")), at(3, text(`x\*`)))},
		{"a// b\nc", row(at(0, word("a")), at(6, word("c")))},
		{"a//\r\nc", row(at(0, word("a")), at(5, word("c")))},
		{"//a\n//b\n c", row(at(9, word("c")))},
		{"_ _0 A9z Zz_", row(at(0, word("_")), at(2, word("_0")), at(5, word("A9z")), at(9, word("Zz_")))},
		{"if then in has principal", row(at(0, word("if")), at(3, word("then")), at(8, word("in")), at(11, word("has")), at(15, word("principal")))},
		{"0 7 10", row(at(0, long(0)), at(2, long(7)), at(4, long(10)))},
		{"9223372036854775807", row(long(math.MaxInt64))},
		{"-1", row(at(0, sign("-")), at(1, long(1)))},
		{"1.0", row(at(0, long(1)), at(1, sign(".")), at(2, long(0)))},
		{`1"a"b`, row(at(0, long(1)), at(1, text("a")), at(4, word("b")))},
		{"0//x", row(long(0))},
		{`""`, row(text(""))},
		{`"//"`, row(text("//"))},
		{`"a" "b"`, row(at(0, text("a")), at(4, text("b")))},
		{`"a""b"`, row(at(0, text("a")), at(3, text("b")))},
		{`"\"\\\n\t\0\*"`, row(text("\"\\\n\t\x00\\*"))},
		{`"\\*"`, row(text(`\*`))},
		{`"\\\*"`, row(text(`\\*`))},
		{`"\\n"`, row(text(`\n`))},
		{"\"\t\r\x00\x01é*\"", row(text("\t\r\x00\x01é*"))},
		{"<<=", row(at(0, sign("<")), at(1, sign("<=")))},
		{"!!=", row(at(0, sign("!")), at(1, sign("!=")))},
		{"====", row(at(0, sign("==")), at(2, sign("==")))},
		{":::", row(at(0, sign("::")), at(2, sign(":")))},
		{"a:b", row(at(0, word("a")), at(1, sign(":")), at(2, word("b")))},
		{"([{}]),;.", row(at(0, sign("(")), at(1, sign("[")), at(2, sign("{")), at(3, sign("}")), at(4, sign("]")), at(5, sign(")")), at(6, sign(",")), at(7, sign(";")), at(8, sign(".")))},
		{"a&&b||!c", row(at(0, word("a")), at(1, sign("&&")), at(3, word("b")), at(4, sign("||")), at(6, sign("!")), at(7, word("c")))},
	} {
		l, why, place := token.Cut(x.s)
		if !slices.Equal(l, x.want) || why != api.OK || place != 0 {
			t.Errorf("%q: %v, error %d at %d", x.s, l, why, place)
		}
		asks(t, x.s)
	}
}

// Promise 7.1: the first token that is none, why, and where it begins.
func TestNoTokens(t *testing.T) {
	for _, x := range []struct {
		s     string
		why   api.Errno
		place int
	}{
		{"=", api.ErrSyntax, 0}, {"&", api.ErrSyntax, 0}, {"a |b", api.ErrSyntax, 2}, {"&&&", api.ErrSyntax, 2}, {"a = b", api.ErrSyntax, 2}, {"===", api.ErrSyntax, 2}, {"<==", api.ErrSyntax, 2}, {"!==", api.ErrSyntax, 2},
		{"/", api.ErrSyntax, 0}, {"a / / b", api.ErrSyntax, 2}, {"a /", api.ErrSyntax, 2}, {"@", api.ErrSyntax, 0}, {"  'a'", api.ErrSyntax, 2}, {`\`, api.ErrSyntax, 0}, {"a\v", api.ErrSyntax, 1}, {"a\f", api.ErrSyntax, 1}, {"\x00", api.ErrSyntax, 0}, {"é", api.ErrSyntax, 0}, {"aé", api.ErrSyntax, 1}, {"1é", api.ErrSyntax, 1}, {"\xff", api.ErrSyntax, 0}, {"\u00a0", api.ErrSyntax, 0},
		{"00", api.ErrSyntax, 0}, {"01", api.ErrSyntax, 0}, {"a 007", api.ErrSyntax, 2}, {"1a", api.ErrSyntax, 0}, {"12a", api.ErrSyntax, 0}, {"1_", api.ErrSyntax, 0}, {"1_000", api.ErrSyntax, 0}, {"0x1", api.ErrSyntax, 0}, {" 1e5", api.ErrSyntax, 1}, {"9223372036854775808", api.ErrSyntax, 0}, {"a 18446744073709551616", api.ErrSyntax, 2}, {strings.Repeat("9", 2048), api.ErrSyntax, 0},
		{`"`, api.ErrSyntax, 0}, {`"a`, api.ErrSyntax, 0}, {`"a\"`, api.ErrSyntax, 0}, {`"a\`, api.ErrSyntax, 0}, {"\"a\nb\"", api.ErrSyntax, 0}, {"\"a\\\nb\"", api.ErrSyntax, 0}, {`"\x"`, api.ErrSyntax, 0}, {`"\r"`, api.ErrSyntax, 0}, {`"\N"`, api.ErrSyntax, 0}, {`"\é"`, api.ErrSyntax, 0}, {`a "b" "\/"`, api.ErrSyntax, 6}, {`"a"b"`, api.ErrSyntax, 4},
		{"\"\xff\"", api.ErrUtf, 0}, {"\"a\xc3\"", api.ErrUtf, 0}, {"\"\xc3\\\"\"", api.ErrUtf, 0}, {"\"\xed\xa0\x80\"", api.ErrUtf, 0}, {"\"\xc0\x80\"", api.ErrUtf, 0}, {"\"\xf4\x90\x80\x80\"", api.ErrUtf, 0},
		// Of a string that does not end, or has a wrong escape or a bare LF, that goes ahead of all else.
		{"\"\xff", api.ErrSyntax, 0}, {"\"\xff\n\"", api.ErrSyntax, 0}, {"\"\xff\\x\"", api.ErrSyntax, 0}, {"\"\\x\xff\"", api.ErrSyntax, 0}, {"\"\\x", api.ErrSyntax, 0},
		{`"` + strings.Repeat("a", 257), api.ErrSyntax, 0}, {`"` + strings.Repeat("a", 257) + `\x"`, api.ErrSyntax, 0}, {`"` + strings.Repeat("a", 257) + "\xff\"", api.ErrUtf, 0}, {"\"\xff" + strings.Repeat("a", 257) + `"`, api.ErrUtf, 0}, {` "` + strings.Repeat("a", 257) + `"`, api.ErrLong, 1},
		// From the left.
		{"\"a\" @ \"\xff\"", api.ErrSyntax, 4}, {"\"\xff\" @", api.ErrUtf, 0}, {`1 "` + strings.Repeat("a", 257) + "\" 01 \"\xff\"", api.ErrLong, 2}, {"01 \"\xff\"", api.ErrSyntax, 0},
	} {
		l, why, place := token.Cut(x.s)
		if len(l) != 0 || why != x.why || place != x.place {
			t.Errorf("%.80q: %v, error %d at %d; not %d at %d", x.s, l, why, place, x.why, x.place)
		}
		asks(t, x.s)
	}
}

// Promise 7.1: texts as long as they may be, and longer ones, whatever is in them.
func TestLongTexts(t *testing.T) {
	for _, s := range []string{"a", " ", "/", "(", `"\" `, "\xff", "9", "a ", "::", `"a"`, "1 \n"} {
		for _, n := range []int{2046, 2047, 2048, 2049, 2050} {
			asks(t, strings.Repeat(s, n)[:n])
		}
		l, why, place := token.Cut(strings.Repeat(s, 1<<20))
		if l != nil || why != api.ErrLong || place != 0 {
			t.Errorf("%q, very often: error %d at %d", s, why, place)
		}
	}
	if l, why, _ := token.Cut(strings.Repeat("x", 2048)); why != api.OK || len(l) != 1 || len(l[0].Text) != 2048 {
		t.Errorf("a word of 2048 letters: error %d", why)
	}
	if l, why, _ := token.Cut(strings.Repeat("+", 2048)); why != api.OK || len(l) != 2048 {
		t.Errorf("2048 signs: %d, error %d", len(l), why)
	}
}

// Promise 7.1, and words: strings at their limit, which is of what they stand for.
func TestLongStrings(t *testing.T) {
	for _, x := range []struct {
		unit string
		most int
	}{{"a", 256}, {`\n`, 256}, {`\"`, 256}, {`\\`, 256}, {`\0`, 256}, {"\x00", 256}, {`\*`, 128}, {`\\*`, 128}, {"é", 128}, {"\U0010ffff", 64}} {
		fits, over := `"`+strings.Repeat(x.unit, x.most)+`"`, `"`+strings.Repeat(x.unit, x.most+1)+`"`
		if l, why, place := token.Cut(fits); why != api.OK || len(l) != 1 || len(l[0].Text) != 256 || place != 0 {
			t.Errorf("%d of %q: error %d at %d", x.most, x.unit, why, place)
		}
		if l, why, place := token.Cut("a " + over); len(l) != 0 || why != api.ErrLong || place != 2 {
			t.Errorf("%d of %q: error %d at %d", x.most+1, x.unit, why, place)
		}
		asks(t, fits)
		asks(t, over)
	}
}

// Promise 7.1, P1 and P3: all texts of two bytes, all of some bytes with one of all ahead of and behind them, and others by chance, against the patterns.
func TestCutAsThePatternsDo(t *testing.T) {
	for a := range 256 {
		asks(t, string([]byte{byte(a)}))
		for b := range 256 {
			asks(t, string([]byte{byte(a), byte(b)}))
		}
		for _, s := range []string{`"ab"`, "ab", "10", "//\n", `"\n"`, " a "} {
			for i := range len(s) + 1 {
				asks(t, s[:i]+string([]byte{byte(a)})+s[i:])
			}
		}
	}
	r := rand.New(rand.NewSource(7))
	bits := append(signs(), "a", "Zz", "_", "0", "1", "9", "10", "9223372036854775807", "9223372036854775808", `"`, `"`, `"`, `\`, "n", "t", "*", "\n", " ", "\t", "\r", "/", "//", "é", "\xff", "\xc3", "=", "&", "|", "\x00", "if", `"\*"`, `"a\n"`)
	for range 60000 {
		var b strings.Builder
		for range r.Intn(12) {
			b.WriteString(oneOf(r, bits))
		}
		asks(t, b.String())
	}
}

// Promise 7.2 of Quote, and words.
func TestQuote(t *testing.T) {
	for _, x := range []struct {
		s, want string
		why     api.Errno
	}{
		{"", `""`, api.OK},
		{"a b", `"a b"`, api.OK},
		{"\"\n\t\x00", `"\"\n\t\0"`, api.OK},
		{`\`, `"\\"`, api.OK},
		{`\\`, `"\\\\"`, api.OK},
		{`*`, `"*"`, api.OK},
		{`**`, `"**"`, api.OK},
		{`\*`, `"\*"`, api.OK},
		{`\\*`, `"\\\*"`, api.OK},
		{`\**`, `"\**"`, api.OK},
		{`*\`, `"*\\"`, api.OK},
		{`\n`, `"\\n"`, api.OK},
		{`\"*`, `"\\\"*"`, api.OK},
		{`a\*b\c`, `"a\*b\\c"`, api.OK},
		{"\r\x01\x7fé\U0010ffff//'", "\"\r\x01\x7fé\U0010ffff//'\"", api.OK},
		{strings.Repeat("\x00", 256), `"` + strings.Repeat(`\0`, 256) + `"`, api.OK},
		{strings.Repeat("é", 128), `"` + strings.Repeat("é", 128) + `"`, api.OK},
		{strings.Repeat("a", 257), "", api.ErrLong},
		{strings.Repeat("é", 128) + "a", "", api.ErrLong},
		{strings.Repeat("a", 1<<20), "", api.ErrLong},
		{"\xff", "", api.ErrUtf},
		{"a\xc3", "", api.ErrUtf},
		{"\xed\xa0\x80", "", api.ErrUtf},
		{strings.Repeat("a", 1000) + "\x80", "", api.ErrUtf},
	} {
		if s, why := token.Quote(x.s); s != x.want || why != x.why {
			t.Errorf("%.80q: %.80q, error %d; not %.80q, error %d", x.s, s, why, x.want, x.why)
		}
	}
}

// Promise 7.2 of Show: tokens that Cut may answer, wherever they begin.
func TestShow(t *testing.T) {
	for _, x := range []struct {
		one  api.Token
		want string
	}{
		{word("a"), "a"}, {word("_9"), "_9"}, {word("principal"), "principal"}, {word(strings.Repeat("w", 2048)), strings.Repeat("w", 2048)},
		{long(0), "0"}, {long(10), "10"}, {long(math.MaxInt64), "9223372036854775807"},
		{text(""), `""`}, {text("a\n\\*\\"), `"a\n\*\\"`}, {text(strings.Repeat("\n", 256)), `"` + strings.Repeat(`\n`, 256) + `"`},
	} {
		for _, place := range []int{0, 5, -1, math.MaxInt, math.MinInt} {
			if s, why := token.Show(at(place, x.one)); s != x.want || why != api.OK {
				t.Errorf("%.80v: %.80q, error %d", x.one, s, why)
			}
		}
	}
	for _, s := range signs() {
		if got, why := token.Show(sign(s)); got != s || why != api.OK {
			t.Errorf("sign %q: %q, error %d", s, got, why)
		}
	}
}

// Promise 7.2 of Show, and P2: tokens that are none.
func TestShowOfNone(t *testing.T) {
	l := row(api.Token{}, api.Token{Text: "a"}, api.Token{N: 1}, api.Token{Kind: api.TokenCount, Text: "a"}, api.Token{Kind: 255},
		word(""), word("1"), word("1a"), word("a b"), word(" a"), word("a "), word("a//"), word("é"), word("=="), word(`"a"`), word("a\n"), word("\xff"), word(strings.Repeat("w", 2049)), word(strings.Repeat("w", 1<<20)), api.Token{Kind: api.TokenWord, Text: "a", N: 1},
		long(-1), long(math.MinInt64), api.Token{Kind: api.TokenLong, N: 1, Text: "1"}, api.Token{Kind: api.TokenLong, Text: "1"},
		text("\xff"), text(strings.Repeat("a", 257)), text(strings.Repeat("a", 257)+"\xff"), api.Token{Kind: api.TokenString, Text: "a", N: 1},
		sign(""), sign("="), sign("==="), sign("&"), sign("a"), sign("1"), sign(" +"), sign("+ "), sign("/"), sign("//"), sign(". ."), sign("++"), sign(":::"), api.Token{Kind: api.TokenSign, Text: "+", N: -1})
	for _, one := range l {
		for _, place := range []int{0, 1, -1} {
			if s, why := token.Show(at(place, one)); s != "" || why != api.ErrSyntax {
				t.Errorf("%.80v: %.80q, error %d", one, s, why)
			}
		}
	}
	for kind := range 256 {
		for _, s := range []string{"", "a", "1", "+", "\x00"} {
			one := api.Token{Kind: api.TokenKind(kind), Text: s}
			_, why := token.Show(one)
			right := kind == 1 && s == "a" || kind == 2 && s == "" || kind == 3 || kind == 4 && s == "+"
			if right != (why == api.OK) || !right && why != api.ErrSyntax {
				t.Errorf("%v: error %d", one, why)
			}
		}
	}
}

// anyText is what a string may stand for, by chance.
func anyText(r *rand.Rand) string {
	bits := []string{"a", `\`, `\`, "*", "*", `"`, "\n", "\t", "\r", "\x00", "n", "0", "é", "\U0010ffff", " ", "//", "::"}
	var b strings.Builder
	for range r.Intn(20) {
		b.WriteString(oneOf(r, bits))
	}
	return b.String()
}

// anyToken is a token that Cut may answer, by chance, but for its place.
func anyToken(r *rand.Rand) api.Token {
	switch r.Intn(4) {
	case 0:
		return word(oneOf(r, []string{"a", "_", "Z9", "if", "contains", "a_b", strings.Repeat("x", 1+r.Intn(40))}))
	case 1:
		return long(int64(r.Uint64()>>1) >> r.Intn(63))
	case 2:
		return text(anyText(r))
	}
	return sign(oneOf(r, signs()))
}

// Promise 7.4, and P5: tokens that are shown are cut as they were, but for their places.
func TestThereAndBack(t *testing.T) {
	r := rand.New(rand.NewSource(74))
	for range 20000 {
		var l []api.Token
		var parts []string
		for range r.Intn(12) {
			one := anyToken(r)
			s, why := token.Show(at(r.Intn(100)-50, one))
			if why != api.OK {
				t.Fatalf("%v: error %d", one, why)
			}
			l, parts = append(l, one), append(parts, s)
		}
		s := strings.Join(parts, oneOf(r, []string{" ", "\n", "\t", " // \" \n", "\r\n"}))
		got, why, place := token.Cut(s)
		for i := range got {
			got[i].At = 0
		}
		if len(s) <= 2048 && (!slices.Equal(got, l) || why != api.OK || place != 0) {
			t.Fatalf("%q: %v, error %d at %d; not %v", s, got, why, place, l)
		}
	}
}

// Promises 7.2 and 7.4: what is quoted is cut as that string, and no other string.
func TestQuotedIsCut(t *testing.T) {
	r := rand.New(rand.NewSource(72))
	for range 20000 {
		s := anyText(r)
		q, why := token.Quote(s)
		l, reason, _ := token.Cut(q)
		if why != api.OK || reason != api.OK || !slices.Equal(l, row(text(s))) {
			t.Fatalf("%q is quoted %q, which is cut %v; errors %d, %d", s, q, l, why, reason)
		}
		if shown, _ := token.Show(text(s)); shown != q {
			t.Fatalf("%q is shown %q, quoted %q", s, shown, q)
		}
	}
}

// Promise 7.5: places rise; between tokens, ahead of them and behind them there are but blanks.
func TestPlaces(t *testing.T) {
	r := rand.New(rand.NewSource(75))
	blanks := []string{" ", "\n", "\t\t", "\r\n", "// x \xff\n", "//\n//\n", " //é\n "}
	for range 5000 {
		var b strings.Builder
		var places []int
		for range r.Intn(10) {
			b.WriteString(oneOf(r, blanks))
			s, _ := token.Show(anyToken(r))
			places = append(places, b.Len())
			b.WriteString(s)
		}
		b.WriteString(oneOf(r, append(blanks, "", "// the end")))
		l, why, _ := token.Cut(b.String())
		var got []int
		for _, one := range l {
			got = append(got, one.At)
		}
		if why != api.OK || !slices.Equal(got, places) {
			t.Fatalf("%q: places %v, not %v; error %d", b.String(), got, places, why)
		}
	}
}

// Promise 7.3, and P3: each answer is new memory, and the same each time.
func TestNewMemory(t *testing.T) {
	s := `a::"x\n" == 12 // y`
	one, _, _ := token.Cut(s)
	two, _, _ := token.Cut(s)
	want := slices.Clone(two)
	if !slices.Equal(one, two) {
		t.Error("not the same each time")
	}
	all := one[:cap(one)]
	for i := range all {
		all[i] = api.Token{Kind: 99, Text: "spoilt", N: 1, At: -1}
	}
	three, _, _ := token.Cut(s)
	if !slices.Equal(two, want) || !slices.Equal(three, want) || s != `a::"x\n" == 12 // y` {
		t.Error("an answer shares memory")
	}
}

// P1, P2: texts of any bytes end, and beside an error there is nothing.
func TestAnyTexts(t *testing.T) {
	r := rand.New(rand.NewSource(1))
	for range 20000 {
		b := make([]byte, r.Intn(40))
		for i := range b {
			b[i] = byte(r.Intn(256))
		}
		asks(t, string(b))
		l, why, place := token.Cut(string(b))
		if why != api.OK && (l != nil || place < 0 || place >= max(1, len(b))) || why == api.OK && place != 0 {
			t.Fatalf("%q: %v, error %d at %d", b, l, why, place)
		}
		one := api.Token{Kind: api.TokenKind(r.Intn(7)), Text: string(b), N: int64(r.Uint64()) >> r.Intn(65) * int64(r.Intn(2))}
		if shown, why := token.Show(one); why != api.OK && (why != api.ErrSyntax || shown != "") {
			t.Fatalf("%v: %q, error %d", one, shown, why)
		}
		if q, why := token.Quote(string(b)); why != api.OK && (why != api.ErrUtf && why != api.ErrLong || q != "") {
			t.Fatalf("%q: %q, error %d", b, q, why)
		}
	}
}

// P4.
func TestNoGoroutineIsLeft(t *testing.T) {
	before := runtime.NumGoroutine()
	for i := range 100 {
		s := fmt.Sprintf("a%d == %s", i, strconv.Quote("x"))
		token.Cut(s)
		token.Show(word(s))
		token.Quote(s)
	}
	if after := runtime.NumGoroutine(); after > before {
		t.Errorf("%d goroutines, before %d", after, before)
	}
}
