package entity_test

import (
	"math/rand"
	"slices"
	"strings"
	"testing"

	"lictor/api"
	"lictor/entity"
	"lictor/expr"
	"lictor/token"
	"lictor/value"
)

// Promise 11.2 of Parse, and words: texts of all of the grammar, and what they are.
func TestParse(t *testing.T) {
	full := one("User::a", "Group::g")
	full.Attrs = record("age", long(3))
	with := func(attrs api.Value) api.Entity { return api.Entity{Uid: uid("A::x"), Attrs: attrs} }
	for s, want := range map[string]api.Entity{
		`User::"a" in [Group::"g"] {age: 3};`: full, "// who\nUser :: \"a\"\tin[Group::\"g\"]{age:3} ;// all": full, `User::"a"in[Group::"g"]{"age":5-2};`: full,
		`A::"x" {};`: one("A::x"), `A::"x" in [] {};`: one("A::x"), `A::B::""{};`: one("A::B::"), `contains::"\n\*" {};`: one("contains::\n\\*"), `A::"x" in [B::"y", A::"z",A::C::"",A::"a"] {};`: one("A::x", "A::a", "A::z", "A::C::", "B::y"), `A::"x" in [A::"y", B::"x"] {};`: one("A::x", "A::y", "B::x"), `A::"x" in [AA::"a", A::"z"] {};`: one("A::x", "A::z", "AA::a"),
		`A::"x" {b: 1, a: -2};`: with(record("a,b", long(-2), long(1))), `A::"x" {"x y": "v", in_: [2, 1, 2], e: A::"x"};`: with(record("e,in_,x y", being("A", "x"), set(long(1), long(2)), text("v"))), `A::"x" {a: -9223372036854775807 - 1};`: with(record("a", long(-1<<63))), `A::"x" {a: true, b: false, c: [[], {}]};`: with(record("a,b,c", boolean(true), boolean(false), set(set(), record("")))),
		`Action::"x" in [Action::"y"] {};`: one("Action::x", "Action::y"),
	} {
		if got, why, place := entity.Parse(s); !alike(got, want) || why != api.OK || place != 0 {
			t.Errorf("%q is read %v, error %d at %d; not %v", s, got, why, place, want)
		}
	}
}

// Promise 11.2 of Parse: what is no entity, and the place of the first token that is not what may come, or of the text's end.
func TestParseOfNone(t *testing.T) {
	long65 := strings.Repeat("n", 65)
	for _, x := range []struct {
		s     string
		place int
	}{
		{``, 0}, {`  `, 2}, {`// A::"x" {};`, 13}, {`;`, 0}, {`{};`, 0}, {`"x"`, 0}, {`1`, 0}, {`A`, 1}, {`A {};`, 2}, {`A::`, 3}, {`A::{};`, 3}, {`A::B {};`, 5}, {`A::B::1`, 6}, {`A:"x" {};`, 1}, {`A."x" {};`, 1}, {`A::in::"x" {};`, 3}, {`in::"x" {};`, 0}, {`principal::"x" {};`, 0}, {`entity::"x" {};`, 0}, {`true {};`, 0}, {`(A::"x") {};`, 0}, {`"A"::"x" {};`, 0}, {long65 + `::"x" {};`, 0}, {`A::` + long65 + `::"x" {};`, 3}, {`A::::"x" {};`, 3}, {`entity A {};`, 0}, {`A::"x"::"y" {};`, 6}, {`A::"x" "y" {};`, 7},
		{`A::"x"`, 6}, {`A::"x" `, 7}, {`A::"x";`, 6}, {`A::"x" 1;`, 7}, {`A::"x" };`, 7}, {`A::"x" [];`, 7}, {`A::"x" [Group::"g"] {};`, 7}, {`A::"x" ({});`, 7}, {`A::"x" == {};`, 7}, {`A::"x" is {};`, 7}, {`A::"x" "in" [] {};`, 7}, {`A::"x" In [] {};`, 7}, {`A::"x" "{" };`, 7}, {`A::"x" context;`, 7},
		{`A::"x" in`, 9}, {`A::"x" in {};`, 10}, {`A::"x" in B::"y" {};`, 10}, {`A::"x" in (B::"y") {};`, 10}, {`A::"x" in [`, 11}, {`A::"x" in [,] {};`, 11}, {`A::"x" in [;`, 11}, {`A::"x" in [1] {};`, 11}, {`A::"x" in ["y"] {};`, 11}, {`A::"x" in [B] {};`, 12}, {`A::"x" in [B::] {};`, 14}, {`A::"x" in [B::C] {};`, 15}, {`A::"x" in [B::"y" {};`, 18}, {`A::"x" in [B::"y"`, 17}, {`A::"x" in [B::"y",] {};`, 18}, {`A::"x" in [B::"y" C::"z"] {};`, 18}, {`A::"x" in [B::"y"; C::"z"] {};`, 17}, {`A::"x" in [B::"y"}`, 17}, {`A::"x" in [B::"y"] in [] {};`, 19}, {`A::"x" in [] [] {};`, 13}, {`A::"x" in []`, 12}, {`A::"x" in [];`, 12}, {`A::"x" in [B::"y", in::"z"] {};`, 19}, {`A::"x" in [principal] {};`, 11}, {`A::"x" in [` + long65 + `::"y"] {};`, 11}, {`A::"x" in [B::"y"] 1`, 19}, {`A::"x" in [B::"y"] "{"`, 19},
		{`A::"x" {`, 8}, {`A::"x" {a`, 9}, {`A::"x" {a}`, 9}, {`A::"x" {a:`, 10}, {`A::"x" {a: 1`, 12}, {`A::"x" {a: 1,};`, 13}, {`A::"x" {a: 1 b: 2};`, 13}, {`A::"x" {a: 1]`, 12}, {`A::"x" {1: 1};`, 8}, {`A::"x" {in: 1};`, 8}, {`A::"x" {a = 1`, 10}, {`A::"x" {a: b};`, 12}, {`A::"x" {} + ;`, 12}, {`A::"x" {}.;`, 10}, {`A::"x" {} == ;`, 13}, {`A::"x" {a: 1 + };`, 15},
		{`A::"x" {}`, 9}, {`A::"x" {} `, 10}, {`A::"x" {}}`, 9}, {`A::"x" {}, `, 9}, {`A::"x" {} {};`, 10}, {`A::"x" {};;`, 10}, {`A::"x" {}; B::"y" {};`, 11}, {`A::"x" {} x;`, 10}, {`A::"x" {} 1`, 10}, {`A::"x" {} "";`, 10}, {`A::"x" {a: principal} x`, 22}, {`A::"x" {} == {} == {};`, 16}, {`A::"x" in [B::"y", B::"y"] {a: -9223372036854775807 - 2}`, 56},
		{strings.Repeat(`A::`, 682), 2046}, {`A::"x" ` + strings.Repeat(" ", 2041), 2048},
	} {
		// A sign that is none goes ahead of all.
		if strings.Contains(x.s, " = ") {
			x.place = strings.Index(x.s, "=")
		}
		if e, why, place := entity.Parse(x.s); !zero(e) || why != api.ErrSyntax || place != x.place {
			t.Errorf("%.80q: %v, error %d at %d, not at %d", x.s, e, why, place, x.place)
		}
	}
}

// Promise 11.2 of Parse: Cut's errors, and their places; they go ahead of all else.
func TestParseOfNoTokens(t *testing.T) {
	for _, x := range []struct {
		s     string
		why   api.Errno
		place int
	}{
		{`A = B`, api.ErrSyntax, 2}, {`) @`, api.ErrSyntax, 2}, {`{ {a: 1, a: 2} 01`, api.ErrSyntax, 15}, {`x "`, api.ErrSyntax, 2}, {"; \"\xff\"", api.ErrUtf, 2}, {`; "` + strings.Repeat("a", 257) + `"`, api.ErrLong, 2}, {`A::"x" {}; &`, api.ErrSyntax, 11}, {"A::\"\xff\" {};", api.ErrUtf, 3},
		{`A::"x" {};` + strings.Repeat(" ", 2039), api.ErrLong, 0}, {strings.Repeat(")", 1<<20), api.ErrLong, 0}, {strings.Repeat("@", 2049), api.ErrLong, 0},
	} {
		if e, why, place := entity.Parse(x.s); !zero(e) || why != x.why || place != x.place {
			t.Errorf("%.60q: %v, error %d at %d, not %d at %d", x.s, e, why, place, x.why, x.place)
		}
	}
	if e, why, place := entity.Parse(`A::"x" {};` + strings.Repeat(" ", 2038)); !alike(e, one("A::x")) || why != api.OK || place != 0 {
		t.Errorf("as long as it may be: %v, error %d at %d", e, why, place)
	}
}

// Promise 11.2 of Parse: attributes that are not right, or no constant; and in which order errors go.
func TestParseOfWrongOnes(t *testing.T) {
	twice, deep, over := `{a: 1, "a": 2}`, `{a: `+strings.Repeat("[", 16)+strings.Repeat("]", 16)+`}`, `{a: -9223372036854775807 - 2}`
	ones := `[` + strings.TrimSuffix(strings.Repeat("1,", 16), ",") + `]`
	great := `{a: [` + strings.TrimSuffix(strings.Repeat(ones+",", 8), ",") + `]}`
	nine := `{a: [[[[[[[[]]]]]]]]}`
	long65 := strings.Repeat("i", 65)
	parents := func(n int) string {
		return `A::"x" in [` + strings.TrimSuffix(strings.Repeat(`B::"y",`, n), ",") + `] {};`
	}
	others := func(n int) string {
		var l []string
		for _, u := range manyUids("B", n) {
			l = append(l, u.Type+`::"`+u.Id+`"`)
		}
		return `A::"x" in [` + strings.Join(l, ", ") + `] {};`
	}
	for _, x := range []struct {
		s     string
		why   api.Errno
		place int
	}{
		// expr.Read's error goes ahead of what is behind the attributes.
		{`A::"x" ` + twice + `;`, api.ErrSyntax, 7}, {`A::"x" ` + twice + ` x`, api.ErrSyntax, 7}, {`A::"x" ` + twice, api.ErrSyntax, 7}, {`A::"x" ` + deep + `;`, api.ErrDepth, 7}, {`A::"x" ` + deep + ` ] x`, api.ErrDepth, 7}, {`A::"x"   ` + great + `;`, api.ErrMany, 9}, {`A::"x"in[]` + great + `}`, api.ErrMany, 10}, {`A::"x" {a: ` + twice + `, b}`, api.ErrSyntax, 28}, {`A::"x" {"": 1};`, api.ErrSyntax, 7}, {`A::"x" {a: B::"` + long65 + `"};`, api.ErrSyntax, 7}, {`A::"x" {"` + long65 + `": 1} x`, api.ErrSyntax, 7}, {`A::"x" {a: [1,` + ones[1:] + `} x`, api.ErrSyntax, 7},
		// What is behind the attributes goes ahead of what they say.
		{`A::"x" {a: context};`, api.ErrType, 0}, {`A::"x" {a: context} x`, api.ErrSyntax, 20}, {`A::"x" ` + over + `;`, api.ErrOver, 0}, {`A::"x" ` + over, api.ErrSyntax, 36}, {`A::"x" ` + nine + `;`, api.ErrDepth, 0}, {`A::"x" ` + nine + `;;`, api.ErrSyntax, 29},
		// An expression that begins with the sign of a record may be another one.
		{`A::"x" {a: 1}.a;`, api.ErrType, 0}, {`A::"x" {a: 1} + 1;`, api.ErrType, 0}, {`A::"x" {a: 1} == {};`, api.ErrType, 0}, {`A::"x" {} has a;`, api.ErrType, 0}, {`A::"x" {} is A;`, api.ErrType, 0}, {`A::"x" {}["a"];`, api.ErrType, 0}, {`A::"x" {} - 1;`, api.ErrType, 0}, {`A::"x" {} && true;`, api.ErrType, 0}, {`A::"x" {a: {}}.a;`, api.ErrType, 0}, {`A::"x" {} in [];`, api.ErrType, 0}, {`A::"x" {} in [B::"y"];`, api.ErrType, 0}, {`A::"x" {a: 1 + 1};`, api.ErrType, 0}, {`A::"x" {a: -true};`, api.ErrType, 0},
		// What they say goes ahead of Parents that are there twice, and these ahead of what is not right.
		{`A::"x" in [B::"y", B::"y"] {a: context};`, api.ErrType, 0}, {`A::"x" in [B::"y", B::"y"] ` + over + `;`, api.ErrOver, 0}, {`A::"` + long65 + `" ` + over + `;`, api.ErrOver, 0}, {`A::"x" in [B::"y", B::"y"] {};`, api.ErrTwice, 0}, {`A::"x" in [B::"y", C::"y", B::"y"] {};`, api.ErrTwice, 0}, {`A::"x" in [A::"x", A::"x"] {};`, api.ErrTwice, 0}, {`A::"` + long65 + `" in [B::"y", B::"y"] {};`, api.ErrTwice, 0}, {`A::"x" in [B::"` + long65 + `", B::"` + long65 + `"] {};`, api.ErrTwice, 0}, {parents(17), api.ErrTwice, 0}, {parents(200), api.ErrTwice, 0},
		{`A::"` + long65 + `" {};`, api.ErrLong, 0}, {`A::"` + long65[1:] + `" {};`, api.OK, 0}, {`AAA::` + long65[:60] + `::"x" {};`, api.ErrSyntax, 0}, {`AA::` + long65[:60] + `::"x" {};`, api.OK, 0}, {`A::"x" in [B::"` + long65 + `"] {};`, api.ErrLong, 0}, {`A::"x" in [B::"y", AAA::` + long65[:60] + `::"x"] {};`, api.ErrSyntax, 0}, {`A::"` + long65 + `" in [AAA::` + long65[:60] + `::"x"] {};`, api.ErrLong, 0},
		// Check asks Parents in order.
		{`A::"x" in [B::"` + long65 + `", AAA::` + long65[:60] + `::"x"] {};`, api.ErrSyntax, 0}, {`A::"x" in [BBB::` + long65[:60] + `::"x", A::"` + long65 + `"] {};`, api.ErrLong, 0},
		{others(16), api.OK, 0}, {others(17), api.ErrMany, 0}, {others(100), api.ErrMany, 0}, {`A::"x" in [A::"x"] {};`, api.ErrCycle, 0}, {`A::"x" in [B::"x", A::"x", A::"a"] {};`, api.ErrCycle, 0}, {`A::"x" in [B::"x", A::"` + long65 + `", A::"x"] {};`, api.ErrLong, 0},
	} {
		e, why, place := entity.Parse(x.s)
		if why != x.why || place != x.place || zero(e) != (why != api.OK) || why == api.OK && entity.Check(e) != api.OK {
			t.Errorf("%.120q: %v, error %d at %d, not %d at %d", x.s, e, why, place, x.why, x.place)
		}
	}
}

// heads is how a text goes on ahead of an entity's attributes: by what has been read, and what comes, what has been read then. It reads on till attrs.
func heads() map[string]map[string]string {
	return map[string]map[string]string{
		"":        {"NAME": "name"},
		"name":    {"::": "of"},
		"of":      {"NAME": "name", "STRING": "uid"},
		"uid":     {"in": "in", "{": "attrs"},
		"in":      {"[": "open"},
		"open":    {"NAME": "parent", "]": "closed"},
		"parent":  {"::": "ofit"},
		"ofit":    {"NAME": "parent", "STRING": "between"},
		"between": {",": "comma", "]": "closed"},
		"comma":   {"NAME": "parent"},
		"closed":  {"{": "attrs"},
	}
}

// called is how the table of heads calls a token.
func called(t api.Token) string {
	switch {
	case t.Kind == api.TokenString:
		return "STRING"
	case t.Kind == api.TokenWord && value.Name(t.Text):
		return "NAME"
	case t.Kind == api.TokenLong:
		return "LONG"
	}
	return t.Text
}

// wrongAt is why tokens are no entity's text, and the place in the list of the first one that is not what may come, or of the attributes; -1 if they are.
func wrongAt(l []api.Token) (api.Errno, int) {
	state, at, table := "", 0, heads()
	for ; state != "attrs"; at++ {
		if at == len(l) || table[state][called(l[at])] == "" {
			return api.ErrSyntax, at
		}
		state = table[state][called(l[at])]
	}
	at--
	places := slices.Clone(l[at:])
	for i := range places {
		places[i].At = at + i
	}
	_, n, why, place := expr.Read(places, len(l))
	if why != api.OK {
		return why, place
	}
	for _, spelt := range []string{";", "END"} {
		end := at+n == len(l)
		if (spelt == "END") != end || !end && (l[at+n].Kind != api.TokenSign || l[at+n].Text != ";") {
			return api.ErrSyntax, at + n
		}
		n++
	}
	return api.OK, -1
}

// words are tokens of all kinds that texts of entities have, and some that they have not.
func words(t *testing.T) []api.Token {
	t.Helper()
	l, why, _ := token.Cut(`principal context a B contains entity if in has is true == != < && || :: : ; , . + - ! ( ) [ ] { } 0 7 "" "a" "x y" "in" "{"`)
	if why != api.OK {
		t.Fatal("error", why)
	}
	return l
}

// bent is a list of tokens with one of them left out, put in, changed, there twice, or all behind it left out.
func bent(r *rand.Rand, l, pool []api.Token) []api.Token {
	l = slices.Clone(l)
	if len(l) == 0 {
		return l
	}
	i := r.Intn(len(l))
	switch r.Intn(5) {
	case 0:
		return slices.Delete(l, i, i+1)
	case 1:
		return slices.Insert(l, i, oneOf(r, pool))
	case 2:
		l[i] = oneOf(r, pool)
	case 3:
		return slices.Insert(l, i, l[r.Intn(len(l))])
	case 4:
		return l[:i]
	}
	return l
}

// joined is a text of tokens with blanks between, as they are by chance, and the places at which they begin.
func joined(r *rand.Rand, l []api.Token) (string, []int) {
	var b strings.Builder
	var places []int
	for _, t := range l {
		b.WriteString(oneOf(r, []string{" ", " ", " ", "\n", "\t", " // in {\n", "\r\n  "}))
		places = append(places, b.Len())
		s, _ := token.Show(t)
		b.WriteString(s)
	}
	b.WriteString(oneOf(r, []string{"", " ", "\n", "// ;"}))
	return b.String(), append(places, b.Len())
}

// parsedAsTheWords holds what Parse answers of a text of tokens against the words, and tells whether they are an entity's.
func parsedAsTheWords(t *testing.T, r *rand.Rand, l []api.Token) bool {
	t.Helper()
	s, places := joined(r, l)
	if len(s) > api.MaxText {
		return false
	}
	reason, wrong := wrongAt(l)
	e, why, place := entity.Parse(s)
	switch {
	case wrong >= 0:
		if !zero(e) || why != reason || place != places[wrong] {
			t.Errorf("%q: %v, error %d at %d, not %d at %d", s, e, why, place, reason, places[wrong])
		}
	case place != 0 || why != entity.Check(e) && !zero(e):
		t.Errorf("%q: %v, error %d at %d", s, e, why, place)
	}
	return wrong < 0
}

// Promise 11.2 of Parse, and words: the first token that is not what may come, of texts that are bent.
func TestParseOfBentTexts(t *testing.T) {
	pool := words(t)
	r := rand.New(rand.NewSource(112))
	right, wrong := 0, 0
	for range 20000 {
		s, why := entity.Print(anyEntity(r))
		l, no, _ := token.Cut(s)
		if why != api.OK || no != api.OK {
			continue
		}
		for range r.Intn(4) {
			l = bent(r, l, pool)
		}
		if parsedAsTheWords(t, r, l) {
			right++
		} else {
			wrong++
		}
	}
	if right < 3000 || wrong < 6000 {
		t.Errorf("%d are right, %d are not", right, wrong)
	}
}

// Promise 11.2 of Parse, and words: each token in each place of a text, with all that stood there behind it, and with nothing behind it.
func TestEachTokenInEachPlace(t *testing.T) {
	pool := words(t)
	r := rand.New(rand.NewSource(93))
	for _, s := range []string{`A::"x" {};`, `A::B::"x" in [] {a: 1};`, `A::"x" in [A::"y", A::B::"z"] {a: [A::"x"], "b": {}};`} {
		l, why, _ := token.Cut(s)
		if no, at := wrongAt(l); why != api.OK || no != api.OK || at != -1 {
			t.Fatalf("%q: errors %d, %d", s, why, no)
		}
		for i := range len(l) + 1 {
			parsedAsTheWords(t, r, l[:i])
			for _, one := range pool {
				parsedAsTheWords(t, r, append(slices.Clone(l[:i]), one))
				parsedAsTheWords(t, r, slices.Insert(slices.Clone(l), i, one))
				if i < len(l) {
					parsedAsTheWords(t, r, append(append(slices.Clone(l[:i]), one), l[i+1:]...))
				}
			}
		}
	}
}

// Promise 11.2 of Print: each part, and how it is written.
func TestPrint(t *testing.T) {
	full := one("User::a", "Group::g")
	full.Attrs = record("age", long(3))
	odd := one("A::B::\"\n", "A::", "A::é", "B::C::\\*")
	odd.Attrs = record("a,in,x y", set(long(-1<<63), long(-1)), record("", []api.Value{}...), being("A", "\\"))
	for _, x := range []struct {
		e    api.Entity
		want string
	}{
		{full, `User::"a" in [Group::"g"] {age: 3};`}, {one("A::x"), `A::"x" in [] {};`}, {one("A::x", "A::y", "B::x"), `A::"x" in [A::"y", B::"x"] {};`}, {odd, `A::B::"\"\n" in [A::"", A::"é", B::C::"\*"] {a: [(-9223372036854775807 - 1), -1], "in": {}, "x y": A::"\\"};`},
	} {
		s, why := entity.Print(x.e)
		if s != x.want || why != api.OK {
			t.Errorf("%v: %q, error %d; not %q", x.e, s, why, x.want)
		}
		if got, why, place := entity.Parse(s); !alike(got, x.e) || why != api.OK || place != 0 {
			t.Errorf("%q is read %v, error %d at %d", s, got, why, place)
		}
	}
}

// readBack holds what an entity is read from its text against it, and tells whether that is not too long.
func readBack(t *testing.T, e api.Entity) bool {
	t.Helper()
	s, why := entity.Print(e)
	if why != api.OK {
		t.Fatalf("%.300v: error %d", e, why)
	}
	got, why, place := entity.Parse(s)
	if len(s) > 2048 {
		if !zero(got) || why != api.ErrLong || place != 0 {
			t.Fatalf("a text of %d bytes: error %d at %d", len(s), why, place)
		}
		return false
	}
	if !alike(got, e) || why != api.OK || place != 0 {
		t.Fatalf("%.300v is printed %q, read %v, error %d at %d", e, s, got, why, place)
	}
	return true
}

// Promise 11.5, and P5: right entities are read from what is printed of them, where that is not too long.
func TestThereAndBack(t *testing.T) {
	r := rand.New(rand.NewSource(115))
	short, long := 0, 0
	count := func(e api.Entity) {
		if readBack(t, e) {
			short++
		} else {
			long++
		}
	}
	for range 20000 {
		count(anyEntity(r))
	}
	for range 100 {
		e := anyEntity(r)
		e.Attrs = record("a,b,c,d", text(strings.Repeat("\n", 200+r.Intn(57))), text(strings.Repeat("\t", 200+r.Intn(57))), text(strings.Repeat(`"`, 200+r.Intn(57))), text(strings.Repeat("\x00", 200+r.Intn(57))))
		count(e)
	}
	for _, e := range []api.Entity{with(one("A::x"), func(e *api.Entity) { e.Attrs = record("a", nested(7)) }), with(one("A::x"), func(e *api.Entity) { e.Attrs = wide(128) }), with(one("A::x"), func(e *api.Entity) { e.Parents = manyUids("B", 16) })} {
		count(e)
	}
	if short < 10000 || long < 5 {
		t.Errorf("%d texts are not too long, %d are", short, long)
	}
}

// P1, and P5: texts of any bytes; what is read of them is right, and read again from what is printed of it.
func TestAnyTexts(t *testing.T) {
	r := rand.New(rand.NewSource(901))
	pieces := []string{"A", "::", `"x"`, "in", "[", "]", "{", "}", ";", ",", "a", ":", "1", "-", "!", "\xff", "\x00", `"`, "//", "\n", " ", "if", ".", strings.Repeat("n", 65), strings.Repeat("(", 300)}
	whole := []string{`A::"x"`, ` in [`, `A::"y",`, `B::"x"`, `]`, ` {`, `a: 1`, `,b: [1,2]`, `}`, `;`}
	read := 0
	for range 50000 {
		var b strings.Builder
		for _, s := range whole {
			if r.Intn(20) > 0 {
				b.WriteString(s)
			}
			if r.Intn(20) == 0 {
				b.WriteString(oneOf(r, pieces))
			}
		}
		s := b.String()
		e, why, place := entity.Parse(s)
		if zero(e) == (why == api.OK) || place < 0 || place > len(s) || why == api.OK && (place != 0 || !readBack(t, e)) {
			t.Fatalf("%q: %v, error %d at %d", s, e, why, place)
		}
		if why == api.OK {
			read++
		}
	}
	if read < 5000 {
		t.Errorf("%d are read", read)
	}
}

// Promise 11.4: what is read of one text shares no memory with what is read of it again.
func TestReadIsNewMemory(t *testing.T) {
	s := `A::"x" in [B::"y", A::"y"] {a: {b: [1, 2]}, c: {b: [1, 2]}};`
	first, _, _ := entity.Parse(s)
	second, why, _ := entity.Parse(s)
	want := again(second)
	spoilValue(first.Attrs.List[0])
	if !valuesAlike(first.Attrs.List[1], want.Attrs.List[1]) || why != api.OK {
		t.Error("two lists of an answer share memory")
	}
	spoil([]api.Entity{first})
	if !alike(second, want) {
		t.Error("answers share memory")
	}
}
