package policy_test

import (
	"math/rand"
	"slices"
	"strings"
	"testing"

	"lictor/api"
	"lictor/policy"
	"lictor/token"
	"lictor/value"
)

// grammar is the one of chapters 9 and 8, a rule a line: what it is of, and what it is put together of. NAME, LONG and STRING are tokens, END is the end; what no line begins with is a token that is spelt so.
const grammar = `
	text policy END
	policy effect ( principal scope , action names , resource scope ) conditions ;
	effect permit
	effect forbid
	scope
	scope == uid
	scope in uid
	scope is type
	names
	names == uid
	names in [ uids ]
	uids uid
	uids uid , uids
	conditions
	conditions condition conditions
	condition when { expr }
	condition unless { expr }
	uid type :: STRING
	type NAME
	type NAME :: type
	expr if expr then expr else expr
	expr or
	or and
	or and || or
	and relation
	and relation && and
	relation sum
	relation sum sign sum
	relation sum has label
	relation sum is type
	relation sum like STRING
	sign ==
	sign !=
	sign <
	sign <=
	sign >
	sign >=
	sign in
	sum product
	sum product + sum
	sum product - sum
	product unary
	product unary * product
	unary ! unary
	unary - unary
	unary primary members
	members
	members . NAME members
	members [ STRING ] members
	members . contains ( expr ) members
	members . containsAll ( expr ) members
	members . containsAny ( expr ) members
	primary true
	primary false
	primary LONG
	primary STRING
	primary principal
	primary action
	primary resource
	primary context
	primary uid
	primary ( expr )
	primary [ ]
	primary [ exprs ]
	primary { }
	primary { parts }
	label NAME
	label STRING
	exprs expr
	exprs expr , exprs
	parts label : expr
	parts label : expr , parts`

// rules are the grammar's, each as what it is put together of, by what they are of.
func rules() map[string][][]string {
	out := map[string][][]string{}
	for _, line := range strings.Split(strings.TrimSpace(grammar), "\n") {
		words := strings.Fields(line)
		out[words[0]] = append(out[words[0]], words[1:])
	}
	return out
}

// finder goes through tokens by the grammar, all ways at once; far is the farthest token that was asked for.
type finder struct {
	rules  map[string][][]string
	tokens []api.Token
	far    int
	known  map[begun][]int
}

// begun is a part of the grammar, and the token with which it begins.
type begun struct {
	part string
	at   int
}

// is tells whether the token at a place is one of the grammar.
func (f *finder) is(part string, at int) bool {
	if at >= len(f.tokens) {
		return part == "END" && at == len(f.tokens)
	}
	t := f.tokens[at]
	switch part {
	case "END":
		return false
	case "NAME":
		return t.Kind == api.TokenWord && value.Name(t.Text)
	case "LONG":
		return t.Kind == api.TokenLong
	case "STRING":
		return t.Kind == api.TokenString
	}
	return (t.Kind == api.TokenWord || t.Kind == api.TokenSign) && t.Text == part
}

// ends are all places at which a part may end that begins at one.
func (f *finder) ends(part string, at int) []int {
	if f.rules[part] == nil {
		f.far = max(f.far, at)
		if f.is(part, at) {
			return []int{at + 1}
		}
		return nil
	}
	if l, there := f.known[begun{part, at}]; there {
		return l
	}
	var all []int
	for _, rule := range f.rules[part] {
		places := []int{at}
		for _, p := range rule {
			var next []int
			for _, from := range places {
				next = append(next, f.ends(p, from)...)
			}
			slices.Sort(next)
			places = slices.Compact(next)
		}
		all = append(all, places...)
	}
	slices.Sort(all)
	all = slices.Compact(all)
	f.known[begun{part, at}] = all
	return all
}

// firstWrong is the first of the tokens that is not what may come (how many they are, if more must come), or -1 if they are a policy's.
func firstWrong(tokens []api.Token) int {
	f := finder{rules: rules(), tokens: tokens, known: map[begun][]int{}}
	if len(f.ends("text", 0)) > 0 {
		return -1
	}
	return f.far
}

// words are tokens of all kinds that texts of policies have, and some that they have not.
func words(t *testing.T) []api.Token {
	t.Helper()
	l, why, _ := token.Cut(`permit forbid when unless principal action resource context a B contains containsAll entity appliesTo if then else in has is like true false
		== != < <= > >= && || :: : ; , . + - * ! ( ) [ ] { } 0 7 "" "a" "x y" "*"`)
	if why != api.OK {
		t.Fatal("error", why)
	}
	return l
}

// bent is a list of tokens with one of them left out, put in, changed, there twice, or all behind it left out.
func bent(r *rand.Rand, l, pool []api.Token) []api.Token {
	l = slices.Clone(l)
	if len(l) == 0 {
		return l
	}
	i := r.Intn(len(l))
	switch r.Intn(5) {
	case 0:
		return slices.Delete(l, i, i+1)
	case 1:
		return slices.Insert(l, i, oneOf(r, pool))
	case 2:
		l[i] = oneOf(r, pool)
	case 3:
		return slices.Insert(l, i, l[r.Intn(len(l))])
	case 4:
		return l[:i]
	}
	return l
}

// joined is a text of tokens with blanks between, as they are by chance, and the places at which they begin.
func joined(r *rand.Rand, l []api.Token) (string, []int) {
	var b strings.Builder
	var places []int
	for _, t := range l {
		b.WriteString(oneOf(r, []string{" ", " ", " ", "\n", "\t", " // when {\n", "\r\n  "}))
		places = append(places, b.Len())
		s, _ := token.Show(t)
		b.WriteString(s)
	}
	b.WriteString(oneOf(r, []string{"", " ", "\n", "// ;"}))
	return b.String(), append(places, b.Len())
}

// parsedAsTheGrammar holds what Parse answers of a text of tokens against the grammar, and tells whether they are a policy's.
func parsedAsTheGrammar(t *testing.T, r *rand.Rand, l []api.Token) bool {
	t.Helper()
	s, places := joined(r, l)
	if len(s) > api.MaxText {
		return false
	}
	wrong := firstWrong(l)
	p, why, place := policy.Parse(s)
	switch {
	case wrong >= 0:
		if !zero(p) || why != api.ErrSyntax || place != places[wrong] {
			t.Errorf("%q: %v, error %d at %d, not at %d", s, p, why, place, places[wrong])
		}
	case place != 0 || why != policy.Check(p) && !zero(p):
		t.Errorf("%q: %v, error %d at %d", s, p, why, place)
	}
	return wrong < 0
}

// Promise 9.2, and words: the first token that is not what may come, of texts that are bent, against the grammar.
func TestParseAsTheGrammar(t *testing.T) {
	pool := words(t)
	r := rand.New(rand.NewSource(92))
	right, wrong := 0, 0
	for range 6000 {
		s, why := policy.Print(anyPolicy(r))
		l, no, _ := token.Cut(s)
		if why != api.OK || no != api.OK || len(l) > 120 {
			continue
		}
		for range r.Intn(4) {
			l = bent(r, l, pool)
		}
		if parsedAsTheGrammar(t, r, l) {
			right++
		} else {
			wrong++
		}
	}
	if right < 1000 || wrong < 2000 {
		t.Errorf("%d are right, %d are not", right, wrong)
	}
}

// Promise 9.2, and words: each token in each place of a text, with all that stood there behind it, and with nothing behind it.
func TestEachTokenInEachPlace(t *testing.T) {
	pool := words(t)
	r := rand.New(rand.NewSource(93))
	for _, s := range []string{
		`permit(principal, action, resource);`,
		`forbid(principal == A::"x", action == B::C::"y", resource in D::"z") when { true };`,
		`permit(principal is A::B, action in [A::"x", A::B::"y"], resource is A) unless { a::"b" in [principal] } when { {a: 1} has a };`,
	} {
		l, why, _ := token.Cut(s)
		if why != api.OK || firstWrong(l) >= 0 {
			t.Fatalf("%q: error %d", s, why)
		}
		for i := range len(l) + 1 {
			parsedAsTheGrammar(t, r, l[:i])
			for _, one := range pool {
				parsedAsTheGrammar(t, r, append(slices.Clone(l[:i]), one))
				parsedAsTheGrammar(t, r, slices.Insert(slices.Clone(l), i, one))
				if i < len(l) {
					parsedAsTheGrammar(t, r, append(append(slices.Clone(l[:i]), one), l[i+1:]...))
				}
			}
		}
	}
}
