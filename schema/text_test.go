package schema_test

import (
	"math/rand"
	"slices"
	"strings"
	"testing"

	"lictor/api"
	"lictor/schema"
	"lictor/token"
	"lictor/value"
)

// grammar is the chapter's one, a rule a line: what it is of, and what it is put together of. NAME and STRING are tokens, END is the end; what no line begins with is a token that is spelt so.
const grammar = `
	text END
	text part text
	part entity type parents { attributes } ;
	part action STRING appliesTo { principal : [ names ] , resource : [ names ] , context : { attributes } } ;
	parents
	parents in [ names ]
	names
	names several
	several type
	several type , several
	attributes
	attributes fields
	fields field
	fields field , fields
	field NAME : kind
	field STRING : kind
	kind Bool
	kind Long
	kind String
	kind Set < kind >
	kind { attributes }
	kind type
	type NAME
	type NAME :: type`

// rules are the grammar's, each as what it is put together of, by what they are of.
func rules() map[string][][]string {
	out := map[string][][]string{}
	for _, line := range strings.Split(strings.TrimSpace(grammar), "\n") {
		words := strings.Fields(line)
		out[words[0]] = append(out[words[0]], words[1:])
	}
	return out
}

// finder goes through tokens by the grammar, all ways at once; far is the farthest token that was asked for.
type finder struct {
	rules  map[string][][]string
	tokens []api.Token
	far    int
	known  map[begun][]int
}

// begun is a part of the grammar, and the token with which it begins.
type begun struct {
	part string
	at   int
}

// is tells whether the token at a place is one of the grammar.
func (f *finder) is(part string, at int) bool {
	if at >= len(f.tokens) {
		return part == "END" && at == len(f.tokens)
	}
	t := f.tokens[at]
	switch part {
	case "END":
		return false
	case "NAME":
		return t.Kind == api.TokenWord && value.Name(t.Text)
	case "STRING":
		return t.Kind == api.TokenString
	}
	return (t.Kind == api.TokenWord || t.Kind == api.TokenSign) && t.Text == part
}

// ends are all places at which a part may end that begins at one.
func (f *finder) ends(part string, at int) []int {
	if f.rules[part] == nil {
		f.far = max(f.far, at)
		if f.is(part, at) {
			return []int{at + 1}
		}
		return nil
	}
	if l, there := f.known[begun{part, at}]; there {
		return l
	}
	var all []int
	for _, rule := range f.rules[part] {
		places := []int{at}
		for _, p := range rule {
			var next []int
			for _, from := range places {
				next = append(next, f.ends(p, from)...)
			}
			slices.Sort(next)
			places = slices.Compact(next)
		}
		all = append(all, places...)
	}
	slices.Sort(all)
	all = slices.Compact(all)
	f.known[begun{part, at}] = all
	return all
}

// firstWrong is the first of the tokens that is not what may come (how many they are, if more must come), or -1 if they are a schema's.
func firstWrong(tokens []api.Token) int {
	f := finder{rules: rules(), tokens: tokens, known: map[begun][]int{}}
	if len(f.ends("text", 0)) > 0 {
		return -1
	}
	return f.far
}

// words are tokens of all kinds that texts of schemas have, and some that they have not.
func words(t *testing.T) []api.Token {
	t.Helper()
	l, why, _ := token.Cut(`entity action appliesTo principal resource context in A B Bool Long String Set Action a permit is true
		< > , : :: ; { } [ ] ( ) . == >= 0 7 "" "a" "entity" "x y"`)
	if why != api.OK {
		t.Fatal("error", why)
	}
	return l
}

// bent is a list of tokens with one of them left out, put in, changed, there twice, or all behind it left out.
func bent(r *rand.Rand, l, pool []api.Token) []api.Token {
	l = slices.Clone(l)
	if len(l) == 0 {
		return l
	}
	i := r.Intn(len(l))
	switch r.Intn(5) {
	case 0:
		return slices.Delete(l, i, i+1)
	case 1:
		return slices.Insert(l, i, oneOf(r, pool))
	case 2:
		l[i] = oneOf(r, pool)
	case 3:
		return slices.Insert(l, i, l[r.Intn(len(l))])
	case 4:
		return l[:i]
	}
	return l
}

// joined is a text of tokens with blanks between, as they are by chance, and the places at which they begin.
func joined(r *rand.Rand, l []api.Token) (string, []int) {
	var b strings.Builder
	var places []int
	for _, t := range l {
		b.WriteString(oneOf(r, []string{" ", " ", " ", "\n", "\t", " // entity A {\n", "\r\n  "}))
		places = append(places, b.Len())
		s, _ := token.Show(t)
		b.WriteString(s)
	}
	b.WriteString(oneOf(r, []string{"", " ", "\n", "// ;"}))
	return b.String(), append(places, b.Len())
}

// bareSet tells whether Set stands alone where a type might: the chapter does not tell plainly whether it is a type's name there.
func bareSet(l []api.Token) bool {
	for i, t := range l {
		if t.Kind == api.TokenWord && t.Text == "Set" && i+1 < len(l) && strings.Contains(",}>", l[i+1].Text) {
			return true
		}
	}
	return false
}

// parsedAsTheGrammar holds what Parse answers of a text of tokens against the grammar, and tells whether they are a schema's.
func parsedAsTheGrammar(t *testing.T, r *rand.Rand, l []api.Token) bool {
	t.Helper()
	s, places := joined(r, l)
	if len(s) > api.MaxText || bareSet(l) {
		return false
	}
	wrong := firstWrong(l)
	x, why, place := schema.Parse(s)
	switch {
	case wrong >= 0:
		if !zero(x) || why != api.ErrSyntax || place != places[wrong] {
			t.Errorf("%q: %v, error %d at %d, not at %d", s, x, why, place, places[wrong])
		}
	case place != 0 || why == api.OK && schema.Check(x) != api.OK || why != api.OK && !zero(x):
		t.Errorf("%q: %v, error %d at %d", s, x, why, place)
	}
	return wrong < 0
}

// Promise 10.2, and words: the first token that is not what may come, of texts that are bent, against the grammar.
func TestParseAsTheGrammar(t *testing.T) {
	pool := words(t)
	r := rand.New(rand.NewSource(102))
	right, wrong := 0, 0
	for range 8000 {
		s, why := schema.Print(anySchema(r))
		l, no, _ := token.Cut(s)
		if why != api.OK || no != api.OK || len(l) > 120 {
			continue
		}
		for range r.Intn(4) {
			l = bent(r, l, pool)
		}
		if parsedAsTheGrammar(t, r, l) {
			right++
		} else {
			wrong++
		}
	}
	if right < 700 || wrong < 2000 {
		t.Errorf("%d are right, %d are not", right, wrong)
	}
}

// Promise 10.2, and words: each token in each place of a text, with all that stood there behind it, and with nothing behind it.
func TestEachTokenInEachPlace(t *testing.T) {
	pool := words(t)
	r := rand.New(rand.NewSource(103))
	for _, s := range []string{
		`entity A {}; action "v" appliesTo {principal: [], resource: [A], context: {}};`,
		`entity A::B in [A, A::B] {a: Long, "x y": Set<{b: A::B, c: Bool}>, s: String}; entity A in [] {};`,
		`action "v" appliesTo {principal: [A, B], resource: [A::B], context: {a: Set<Set<Action>>}};`,
	} {
		l, why, _ := token.Cut(s)
		if why != api.OK || firstWrong(l) >= 0 {
			t.Fatalf("%q: error %d", s, why)
		}
		for i := range len(l) + 1 {
			parsedAsTheGrammar(t, r, l[:i])
			for _, one := range pool {
				parsedAsTheGrammar(t, r, append(slices.Clone(l[:i]), one))
				parsedAsTheGrammar(t, r, slices.Insert(slices.Clone(l), i, one))
				if i < len(l) {
					parsedAsTheGrammar(t, r, append(append(slices.Clone(l[:i]), one), l[i+1:]...))
				}
			}
		}
	}
}

// Promise 10.2 of Parse, words, and example 1: texts of all of the grammar, and what they are.
func TestParse(t *testing.T) {
	for s, want := range map[string]api.Schema{
		``: {}, " // none\n": {}, `entity User {};`: named("User"), `entity User in [] { } ;`: named("User"), "entity B {};entity A {};": named("B", "A"), `entity contains{};`: named("contains"), `entity A :: B{};`: named("A::B"), `entity Bool::X {};`: named("Bool::X"),
		`entity A in [B,A] {}; entity B{};`:                                                                                                      {Types: []api.EntityType{kind("A", list("A", "B")), kind("B", nil)}},
		`entity A {b: Long, "a": Bool, "in": String, "x y": {}, c: A, d: Action};`:                                                               {Types: []api.EntityType{kind("A", nil, attr("a", boolean), attr("b", long), attr("c", being("A")), attr("d", being("Action")), attr("in", text), attr("x y", record()))}},
		`entity A::B {b: Set<A :: B>, a: Set < Set < Long > >, c: {y: {z: Bool}, x: Set<{q: Long, p: Bool}>}};`:                                  {Types: []api.EntityType{kind("A::B", nil, attr("a", set(set(long))), attr("b", set(being("A::B"))), attr("c", record(attr("x", set(record(attr("p", boolean), attr("q", long)))), attr("y", record(attr("z", boolean))))))}},
		`entity Set::X {a: Set::X, b: Set<Bool::Y>}; entity Bool::Y {a: Long::Z}; entity Long::Z {b: String::String}; entity String::String {};`: {Types: []api.EntityType{kind("Set::X", nil, attr("a", being("Set::X")), attr("b", set(being("Bool::Y")))), kind("Bool::Y", nil, attr("a", being("Long::Z"))), kind("Long::Z", nil, attr("b", being("String::String"))), kind("String::String", nil)}},
		`entity A {Bool: Bool, Set: Set<Long>, Action: Action};`:                                                                                 {Types: []api.EntityType{kind("A", nil, attr("Action", being("Action")), attr("Bool", boolean), attr("Set", set(long)))}},
		`action "v" appliesTo {principal: [], resource: [], context: {}};`:                                                                       {Actions: []api.Action{deed("v", nil, nil)}},
		`action "w" appliesTo {principal:[B,A],resource:[B],context:{ip:String,"a":Action}}; entity B{}; action "" appliesTo {principal: [A], resource: [A, B], context: {}}; entity A {};`: {Types: []api.EntityType{kind("B", nil), kind("A", nil)}, Actions: []api.Action{deed("w", list("A", "B"), list("B"), attr("a", being("Action")), attr("ip", text)), deed("", list("A"), list("A", "B"))}},
		`action "\n\*" appliesTo {principal: [], resource: [], context: {"\"": Long, "\*": Long, "é": Bool}};`:                                                                              {Actions: []api.Action{deed("\n\\*", nil, nil, attr(`"`, long), attr(`\*`, long), attr("é", boolean))}},
	} {
		got, why, place := schema.Parse(s)
		if !alike(got, want) || why != api.OK || place != 0 {
			t.Errorf("%q is read %v, error %d at %d; not %v", s, got, why, place, want)
		}
	}
}

// Promise 10.2 of Parse: what is no schema, and the place of the first token that is not what may come, or of the text's end.
func TestParseOfNone(t *testing.T) {
	n65 := strings.Repeat("n", 65)
	act := `action "v" appliesTo {principal: [], resource: [], context: {}};`
	for _, x := range []struct {
		s     string
		place int
	}{
		{`;`, 0}, {`A`, 0}, {`Entity A {};`, 0}, {`"entity" A {};`, 0}, {`type A {};`, 0}, {`principal`, 0}, {`{}`, 0}, {` 1`, 1}, {`entity A {}; B {};`, 13}, {`entity A {};;`, 12}, {`entity A {}; entity`, 19}, {act + `;`, 64}, {act + ` x`, 65},
		{`entity`, 6}, {`entity {};`, 7}, {`entity "A" {};`, 7}, {`entity in {};`, 7}, {`entity entity {};`, 7}, {`entity A, B {};`, 8}, {`entity A B {};`, 9}, {`entity A:: {};`, 11}, {`entity A::"b" {};`, 10}, {`entity A::in {};`, 10}, {`entity A.B {};`, 8}, {`entity A;`, 8}, {`entity A`, 8}, {`entity ` + n65 + ` {};`, 7}, {`entity A::` + n65 + ` {};`, 10}, {`entity 1 {};`, 7},
		{`entity A in`, 11}, {`entity A in B {};`, 12}, {`entity A in {}`, 12}, {`entity A in [`, 13}, {`entity A in [B`, 14}, {`entity A in [B,] {};`, 15}, {`entity A in [,B] {};`, 13}, {`entity A in [B C] {};`, 15}, {`entity A in ["B"] {};`, 13}, {`entity A in [B::] {};`, 16}, {`entity A in [B; C] {};`, 14}, {`entity A in [B}`, 14}, {`entity A in [[B]] {};`, 13}, {`entity A in [in] {};`, 13}, {`entity A in [];`, 14}, {`entity A in [] in [] {};`, 15}, {`entity A in [` + n65 + `] {};`, 13}, {`entity A {} in [];`, 12},
		{`entity A {`, 10}, {`entity A {}`, 11}, {`entity A {} entity`, 12}, {`entity A {a}`, 11}, {`entity A {a:}`, 12}, {`entity A {a: Long`, 17}, {`entity A {a: Long,}`, 18}, {`entity A {,}`, 10}, {`entity A {a Long}`, 12}, {`entity A {a: Long b: Long}`, 18}, {`entity A {a: Long; b: Long}`, 17}, {`entity A {in: Long}`, 10}, {`entity A {1: Long}`, 10}, {`entity A {a::Long}`, 11}, {`entity A {a: "Long"}`, 13}, {`entity A {a: 1}`, 13}, {`entity A {a: in}`, 13}, {`entity A {a: true}`, 13}, {`entity A {a, b: Long}`, 11}, {`entity A {a: Long]`, 17}, {`entity A [a: Long]`, 9}, {`entity A {` + n65 + `: Long}`, 10}, {`entity A {a: ` + n65 + `}`, 13}, {`entity A {a?: Long}`, 11}, {`entity A {a.b: Long}`, 11}, {`entity A {a: Long:`, 17},
		{`entity A {a: Long<Bool>}`, 17}, {`entity A {a: A<Bool>}`, 14}, {`entity A {a: Set<>}`, 17}, {`entity A {a: Set<Long}`, 21}, {`entity A {a: Set<Long`, 21}, {`entity A {a: Set<Long, Bool>}`, 21}, {`entity A {a: Set Long}`, 17}, {`entity A {a: Set[Long]}`, 16}, {`entity A {a: Set(Long)}`, 16}, {`entity A {a: Set<Long>>}`, 22}, {`entity A {a: Set<Set<Long>}`, 26}, {`entity A {a: set<Long>}`, 16}, {`entity A {a: Set<"Long">}`, 17}, {`entity A {a: Long::}`, 19}, {`entity A {a: A::"x"}`, 16}, {`entity A {a: [Long]}`, 13}, {`entity A {a: {b}}`, 15}, {`entity A {a: {b: Long}`, 22}, {`entity A {a: {b: Long},}`, 23}, {`entity A {a: {`, 14}, {`entity A {a: (Long)}`, 13},
		{`action`, 6}, {`action v`, 7}, {`action A::"v"`, 7}, {`action "v"`, 10}, {`action "v";`, 10}, {`action "v", "w" appliesTo`, 10}, {`action "v" {`, 11}, {`action "v" in`, 11}, {`action "v" appliesto {`, 11}, {`action "v" "appliesTo" {`, 11}, {`action "v" appliesTo [`, 21}, {`action "v" appliesTo {}`, 22}, {`action "v" appliesTo {resource: []`, 22}, {`action "v" appliesTo {"principal": []`, 22}, {`action "v" appliesTo {principal []`, 32}, {`action "v" appliesTo {principal: A`, 33}, {`action "v" appliesTo {principal: {`, 33}, {`action "v" appliesTo {principal: [A,]`, 36}, {`action "v" appliesTo {principal: ["A"]`, 34}, {`action "v" appliesTo {principal: []}`, 35}, {`action "v" appliesTo {principal: []; resource`, 35}, {`action "v" appliesTo {principal: [] resource`, 36}, {`action "v" appliesTo {principal: [], context: {}`, 37}, {`action "v" appliesTo {principal: [], principal: []`, 37}, {`action "v" appliesTo {principal: [], resource: []}`, 49}, {`action "v" appliesTo {principal: [], resource: [], }`, 51}, {`action "v" appliesTo {principal: [], resource: [], context: []`, 60}, {`action "v" appliesTo {principal: [], resource: [], context: A`, 60}, {`action "v" appliesTo {principal: [], resource: [], context: {}`, 62}, {`action "v" appliesTo {principal: [], resource: [], context: {},}`, 62}, {`action "v" appliesTo {principal: [], resource: [], context: {}}`, 63}, {`action "v" appliesTo {principal: [], resource: [], context: {}}}`, 63}, {`action "v" appliesTo {principal: [], resource: [], context: {a}}`, 62}, {`action "v" appliesTo {principal:: []`, 31},
		{`entity A {a: ` + strings.Repeat("{a:", 678), 2047}, {`entity A {a: ` + strings.Repeat("Set<", 508), 2045}, {strings.Repeat("entity A {};", 170) + "entity A", 2048}, {`entity A in [` + strings.Repeat("A,", 1017), 2047}, {`entity A {a: Long, a: Long} x`, 28}, {`entity A in [A, A] {}; entity A {a: Long,};`, 41},
	} {
		got, why, place := schema.Parse(x.s)
		if !zero(got) || why != api.ErrSyntax || place != x.place {
			t.Errorf("%.80q: %v, error %d at %d, not at %d", x.s, got, why, place, x.place)
		}
	}
}

// Promise 10.2 of Parse: Cut's errors, and their places; they go ahead of all else.
func TestParseOfNoTokens(t *testing.T) {
	for _, x := range []struct {
		s     string
		why   api.Errno
		place int
	}{
		{`entity A = {}`, api.ErrSyntax, 9}, {`; @`, api.ErrSyntax, 2}, {`entity A {a?: Long}`, api.ErrSyntax, 11}, {`x "`, api.ErrSyntax, 2}, {"action action \"\xff\"", api.ErrUtf, 14}, {`; "` + strings.Repeat("a", 257) + `"`, api.ErrLong, 2},
		{`entity A {};` + strings.Repeat(" ", 2037), api.ErrLong, 0}, {strings.Repeat(";", 1<<20), api.ErrLong, 0}, {strings.Repeat("@", 2049), api.ErrLong, 0},
	} {
		got, why, place := schema.Parse(x.s)
		if !zero(got) || why != x.why || place != x.place {
			t.Errorf("%.60q: %v, error %d at %d, not %d at %d", x.s, got, why, place, x.why, x.place)
		}
	}
	if got, why, place := schema.Parse(`entity A {};` + strings.Repeat(" ", 2036)); !alike(got, named("A")) || why != api.OK || place != 0 {
		t.Errorf("as long as it may be: %v, error %d at %d", got, why, place)
	}
}

// Promise 10.2 of Parse: what is read as a schema, but has a name twice in a list, or is not right.
func TestParseOfWrongOnes(t *testing.T) {
	n64, n65 := strings.Repeat("n", 64), strings.Repeat("n", 65)
	act := func(id, principals, resources, context string) string {
		return `action "` + id + `" appliesTo {principal: [` + principals + `], resource: [` + resources + `], context: {` + context + `}};`
	}
	types := func(n int) string {
		var l []string
		for _, s := range manyNames(n) {
			l = append(l, "entity "+s+" {};")
		}
		return strings.Join(l, "")
	}
	many := func(n int) string { return strings.Join(manyNames(n), ",") }
	fields := func(n int) string { return strings.ReplaceAll(letters(n), ",", ":Long,") + ":Long" }
	acts := func(n int) string {
		var s string
		for _, id := range manyNames(n) {
			s += act(id, "", "", "")
		}
		return s
	}
	for _, x := range []struct {
		s   string
		why api.Errno
	}{
		{`entity A in [A, A] {};`, api.ErrTwice}, {`entity A in [A, B, A] {}; entity B {};`, api.ErrTwice}, {`entity A in [Q, Q] {};`, api.ErrTwice}, {`entity A {a: Long, a: Long};`, api.ErrTwice}, {`entity A {a: Long, b: Bool, "a": Bool};`, api.ErrTwice}, {`entity A {a: {b: Long, c: Set<{d: Long, d: Long}>}};`, api.ErrTwice}, {act("v", "A, A", "", "") + `entity A {};`, api.ErrTwice}, {act("v", "", "A, A", "") + `entity A {};`, api.ErrTwice}, {act("v", "", "", `"": Long, "": Long`), api.ErrTwice}, {`entity A {a: {b: Long}, b: Long};`, api.OK}, {`entity A in [A] {}; entity B in [A] {};`, api.OK},
		{`entity Bool in [A, A] {};`, api.ErrTwice}, {types(17) + `entity A {"": Long, "": Bool};`, api.ErrTwice}, {`entity A {` + fields(20) + `, a: Bool};`, api.ErrTwice}, {`entity A {}; entity A {}; entity B in [C, C] {};`, api.ErrTwice}, {`entity A {a: ` + strings.Repeat("{a:", 20) + `{b: Long, b: Long}` + strings.Repeat("}", 20) + `};`, api.ErrTwice},
		{types(16), api.OK}, {types(17), api.ErrMany}, {types(17) + `entity Bool {};`, api.ErrMany}, {acts(16), api.OK}, {acts(17), api.ErrMany}, {types(16) + acts(16)[:0] + act("v", many(16), "", ""), api.OK},
		{`entity Bool {};`, api.ErrSyntax}, {`entity Set {};`, api.ErrSyntax}, {`entity Action {};`, api.ErrSyntax}, {`entity ` + n64 + ` {};`, api.OK}, {`entity A::` + n64 + ` {};`, api.ErrSyntax}, {`entity A::` + n64[:61] + ` {};`, api.OK}, {act(n64, "", "", ""), api.OK}, {act(n65, "", "", ""), api.ErrSyntax}, {types(16) + `action "v" appliesTo {principal: [` + many(17) + `], resource: [], context: {}};`, api.ErrSyntax}, {`entity A in [` + many(17) + `] {};`, api.ErrSyntax}, {`entity A in [` + many(16) + `] {};`, api.ErrUnknown}, {act("v", "", many(17), ""), api.ErrSyntax},
		{`entity A {}; entity B {}; entity A {};`, api.ErrTwice}, {act("v", "", "", "") + act("v", "", "", ""), api.ErrTwice}, {`entity A {"": Long}; entity A {};`, api.ErrTwice}, {`entity A {}; entity A {}; entity String {};`, api.ErrSyntax},
		{`entity A {"": Long};`, api.ErrType}, {`entity A {"` + n64 + `": Long};`, api.OK}, {`entity A {"` + n65 + `": Long};`, api.ErrType}, {`entity A {` + fields(16) + `};`, api.OK}, {`entity A {` + fields(17) + `};`, api.ErrType}, {`entity A {a: {` + fields(17) + `}};`, api.ErrType}, {`entity A {a: A::` + n64 + `};`, api.ErrType}, {act("v", "", "", `"": Long`), api.ErrType}, {`entity A in [B] {"": Long};`, api.ErrType},
		{`entity A {a: ` + strings.Repeat("Set<", 6) + "Long" + strings.Repeat(">", 6) + `};`, api.OK}, {`entity A {a: ` + strings.Repeat("Set<", 7) + "Long" + strings.Repeat(">", 7) + `};`, api.ErrDepth}, {`entity A {a: ` + strings.Repeat("{a:", 6) + "{}" + strings.Repeat("}", 6) + `};`, api.OK}, {`entity A {a: ` + strings.Repeat("{a:", 7) + "{}" + strings.Repeat("}", 7) + `};`, api.ErrDepth}, {`entity A {a: ` + strings.Repeat("Set<", 400) + "Long" + strings.Repeat(">", 400) + `};`, api.ErrDepth}, {act("v", "", "", `a: `+strings.Repeat("Set<", 7)+"Q"+strings.Repeat(">", 7)), api.ErrDepth},
		{`entity A in [B] {};`, api.ErrUnknown}, {`entity A in [Action] {};`, api.ErrUnknown}, {`entity A in [A::` + n64 + `] {};`, api.ErrUnknown}, {`entity A {a: B};`, api.ErrUnknown}, {`entity A {a: Set<{b: A::B}>};`, api.ErrUnknown}, {`entity A in [Long] {};`, api.ErrUnknown}, {act("v", "A", "", ""), api.ErrUnknown}, {act("v", "", "Action", ""), api.ErrUnknown}, {act("v", "", "", "a: Action"), api.OK}, {act("v", "", "", "a: A"), api.ErrUnknown},
	} {
		got, why, place := schema.Parse(x.s)
		if why != x.why || place != 0 || zero(got) != (why != api.OK) || why == api.OK && schema.Check(got) != api.OK {
			t.Errorf("%.120q: %v, error %d at %d, not %d", x.s, got, why, place, x.why)
		}
	}
}

// Promise 10.2 of Print and ShowType: each part, and how it is written.
func TestPrint(t *testing.T) {
	for _, x := range []struct {
		x    api.Schema
		want string
	}{
		{api.Schema{}, ``},
		{named("User"), "entity User in [] {};\n"},
		{api.Schema{Types: []api.EntityType{kind("User", list("Group"), attr("age", long), attr("boss", being("User"))), kind("Group", nil)}, Actions: []api.Action{deed("view", list("User"), list("Group"), attr("ip", text))}}, "entity User in [Group] {\"age\": Long, \"boss\": User};\nentity Group in [] {};\naction \"view\" appliesTo {principal: [User], resource: [Group], context: {\"ip\": String}};\n"},
		{api.Schema{Types: []api.EntityType{kind("B::C", list("A", "B::C"), attr("\n", set(set(being("B::C")))), attr("\"", record()), attr("\\*", record(attr("a", boolean), attr("b", set(record(attr("c", long), attr("d", text)))))), attr("é", being("Action"))), kind("A", nil)}, Actions: []api.Action{deed("w", nil, nil), deed("", list("A", "B::C"), list("A"), attr("a", boolean), attr("b", long))}}, "entity B::C in [A, B::C] {\"\\n\": Set<Set<B::C>>, \"\\\"\": {}, \"\\*\": {\"a\": Bool, \"b\": Set<{\"c\": Long, \"d\": String}>}, \"é\": Action};\nentity A in [] {};\naction \"w\" appliesTo {principal: [], resource: [], context: {}};\naction \"\" appliesTo {principal: [A, B::C], resource: [A], context: {\"a\": Bool, \"b\": Long}};\n"},
		{api.Schema{Actions: []api.Action{deed("\\*", nil, nil)}}, "action \"\\*\" appliesTo {principal: [], resource: [], context: {}};\n"},
	} {
		s, why := schema.Print(x.x)
		if s != x.want || why != api.OK {
			t.Errorf("%v: %q, error %d; not %q", x.x, s, why, x.want)
		}
		if got, why, place := schema.Parse(s); !alike(got, x.x) || why != api.OK || place != 0 {
			t.Errorf("%q is read %v, error %d at %d", s, got, why, place)
		}
	}
	for _, x := range []struct {
		t    api.Type
		want string
	}{
		{boolean, `Bool`}, {long, `Long`}, {text, `String`}, {being("User"), `User`}, {being("A::B"), `A::B`}, {being("Action"), `Action`}, {set(long), `Set<Long>`}, {set(set(being("A"))), `Set<Set<A>>`}, {record(), `{}`}, {record(attr("a", long)), `{"a": Long}`}, {record(attr("a", set(record())), attr("x y", boolean)), `{"a": Set<{}>, "x y": Bool}`}, {set(record(attr("a", text), attr("b", text))), `Set<{"a": String, "b": String}>`},
	} {
		if s, why := schema.ShowType(x.t); s != x.want || why != api.OK {
			t.Errorf("%v: %q, error %d; not %q", x.t, s, why, x.want)
		}
	}
	for _, x := range []api.Type{never, set(never), record(attr("a", never)), record(attr("a", long), attr("b", set(record(attr("c", never)))), attr("d", long)), {}} {
		if s, why := schema.ShowType(x); s != "" || why != api.ErrType {
			t.Errorf("%v: %q, error %d", x, s, why)
		}
	}
	if s, why := schema.ShowType(nested(9, never)); s != "" || why != api.ErrDepth {
		t.Errorf("too deep: %q, error %d", s, why)
	}
}

// Promise 10.2 of ShowType: what is shown of a type is read as that type, within a schema that has its entities.
func TestShownTypes(t *testing.T) {
	r := rand.New(rand.NewSource(1021))
	x := named(kindNames()...)
	for range 5000 {
		want := anyType(r, 1+r.Intn(6), kindNames())
		s, why := schema.ShowType(want)
		all, _ := schema.Print(x)
		got, no, _ := schema.Parse(all + `entity Q {x: ` + s + `};`)
		if len(all)+len(s)+15 > 2048 {
			continue
		}
		if why != api.OK || no != api.OK || !typesAlike(got.Types[len(got.Types)-1].Attrs[0].Type, want) {
			t.Fatalf("%v is shown %q, error %d, read %v, error %d", want, s, why, got, no)
		}
	}
}

// readBack holds what a schema is read from its text against it; whether that is not too long.
func readBack(t *testing.T, x api.Schema) bool {
	t.Helper()
	s, why := schema.Print(x)
	if why != api.OK {
		t.Fatalf("%v: error %d", x, why)
	}
	got, why, place := schema.Parse(s)
	if len(s) > 2048 {
		if !zero(got) || why != api.ErrLong || place != 0 {
			t.Fatalf("a text of %d bytes: error %d at %d", len(s), why, place)
		}
		return false
	}
	if !alike(got, x) || why != api.OK || place != 0 {
		t.Fatalf("%v is printed %q, read %v, error %d at %d", x, s, got, why, place)
	}
	return true
}

// Promise 10.5, and P5: right schemas are read from what is printed of them, where that is not too long.
func TestThereAndBack(t *testing.T) {
	r := rand.New(rand.NewSource(105))
	short, long := 0, 0
	for range 20000 {
		if readBack(t, anySchema(r)) {
			short++
		} else {
			long++
		}
	}
	for _, x := range []api.Schema{{}, named(kindNames()...), named(manyNames(16)...)} {
		readBack(t, x)
	}
	if short < 10000 || long < 10 {
		t.Errorf("%d texts are not too long, %d are", short, long)
	}
}

// mixed is a schema's text with all its lists in an order by chance.
func mixed(r *rand.Rand, x api.Schema) string {
	names := func(l []string) string {
		l = slices.Clone(l)
		r.Shuffle(len(l), func(i, j int) { l[i], l[j] = l[j], l[i] })
		return "[" + strings.Join(l, ",") + "]"
	}
	var parts []string
	for _, t := range x.Types {
		parents := " in" + names(t.Parents)
		if len(t.Parents) == 0 && r.Intn(2) == 0 {
			parents = ""
		}
		parts = append(parts, "entity "+t.Name+parents+mixedAttrs(r, t.Attrs)+";")
	}
	for i, a := range x.Actions {
		id, _ := token.Quote(a.Id)
		// It may stand ahead of any type, but not ahead of another action.
		at := r.Intn(len(parts) + 1)
		if i > 0 {
			at = len(parts)
		}
		parts = slices.Insert(parts, at, "action"+id+"appliesTo{principal:"+names(a.Principals)+",resource:"+names(a.Resources)+",context:"+mixedAttrs(r, a.Context)+"};")
	}
	return strings.Join(parts, "\n")
}

// mixedAttrs is attributes' text in an order by chance.
func mixedAttrs(r *rand.Rand, l []api.Attr) string {
	var parts []string
	for _, i := range r.Perm(len(l)) {
		name := l[i].Name
		if !value.Name(name) || r.Intn(2) == 0 {
			name, _ = token.Quote(name)
		}
		parts = append(parts, name+":"+mixedType(r, l[i].Type))
	}
	return "{" + strings.Join(parts, ",") + "}"
}

// mixedType is a type's text with its attributes in an order by chance.
func mixedType(r *rand.Rand, t api.Type) string {
	switch t.Kind {
	case api.TypeSet:
		return "Set<" + mixedType(r, t.Of[0]) + ">"
	case api.TypeRecord:
		return mixedAttrs(r, t.Attrs)
	}
	s, _ := schema.ShowType(t)
	return s
}

// Promises 10.2 and 10.5, and words: the order of a list's names, and of attributes, is no matter; what is read is right.
func TestOrderIsNoMatter(t *testing.T) {
	r := rand.New(rand.NewSource(1055))
	read := 0
	for range 10000 {
		want := anySchema(r)
		s := mixed(r, want)
		if len(s) > 2048 {
			continue
		}
		read++
		got, why, place := schema.Parse(s)
		if !alike(got, want) || why != api.OK || place != 0 || schema.Check(got) != api.OK {
			t.Fatalf("%q is read %v, error %d at %d; not %v", s, got, why, place, want)
		}
	}
	if read < 5000 {
		t.Errorf("%d are read", read)
	}
}

// P1: texts of any bytes.
func TestAnyTexts(t *testing.T) {
	r := rand.New(rand.NewSource(1001))
	pieces := []string{"entity", "action", "appliesTo", "principal", "resource", "context", "in", "A", "Bool", "Set", "<", ">", "{", "}", "[", "]", ":", "::", ",", ";", `"x"`, "1", "\xff", "\x00", `"`, "//", "\n", " ", "a", strings.Repeat("n", 65), strings.Repeat("{a:", 300), strings.Repeat("Set<", 300)}
	for range 50000 {
		var b strings.Builder
		for range r.Intn(40) {
			b.WriteString(oneOf(r, pieces))
		}
		s := b.String()
		x, why, place := schema.Parse(s)
		if !zero(x) && why != api.OK || place < 0 || place > len(s) || why == api.OK && (place != 0 || schema.Check(x) != api.OK) {
			t.Fatalf("%q: %v, error %d at %d", s, x, why, place)
		}
	}
}
