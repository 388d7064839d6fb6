package expr_test

import (
	"math/rand"
	"strings"
	"testing"

	"lictor/api"
	"lictor/expr"
	"lictor/token"
	"lictor/value"
)

// signOf is how an op of two Kids is written between them.
func signOf(op api.Op) string {
	return map[api.Op]string{api.OpAnd: "&&", api.OpOr: "||", api.OpEqual: "==", api.OpUnlike: "!=", api.OpLess: "<", api.OpMost: "<=", api.OpMore: ">", api.OpLeast: ">=", api.OpIn: "in", api.OpAdd: "+", api.OpSub: "-", api.OpMul: "*", api.OpContains: "contains", api.OpAll: "containsAll", api.OpAny: "containsAny"}[op]
}

// rank is of an op's text: the higher one is put together first (0: if; 3: relations, of which none has another one beside it).
func rank(op api.Op) int {
	switch op {
	case api.OpIf:
		return 0
	case api.OpOr:
		return 1
	case api.OpAnd:
		return 2
	case api.OpEqual, api.OpUnlike, api.OpLess, api.OpMost, api.OpMore, api.OpLeast, api.OpIn, api.OpHas, api.OpIs, api.OpLike:
		return 3
	case api.OpAdd, api.OpSub:
		return 4
	case api.OpMul:
		return 5
	case api.OpNot, api.OpNeg:
		return 6
	}
	return 7
}

// gap is blanks by chance, one at least.
func gap(r *rand.Rand) string {
	return oneOf(r, []string{" ", " ", " ", "\n", "\t", " // and )\n", "\r\n  "})
}

// label is a name by chance as a name, if it is one, or as a string.
func label(r *rand.Rand, s string) string {
	if value.Name(s) && r.Intn(3) > 0 {
		return s
	}
	q, _ := token.Quote(s)
	return q
}

// sparse is a text of an expression in which, but by chance, no brackets stand that need not be there; its rank is least, or it has brackets around it.
func sparse(r *rand.Rand, e api.Expr, least int) string {
	if rank(e.Op) < least || r.Intn(20) == 0 {
		return "(" + gap(r) + sparse(r, e, 0) + ")"
	}
	of := rank(e.Op)
	kid := func(i, least int) string { return sparse(r, e.Kids[i], least) }
	quoted, _ := token.Quote(e.S)
	switch e.Op {
	case api.OpBool:
		return []string{"false", "true"}[e.N]
	case api.OpLong:
		s, _ := token.Show(api.Token{Kind: api.TokenLong, N: e.N})
		return s
	case api.OpString:
		return quoted
	case api.OpEntity:
		return strings.ReplaceAll(e.T, "::", gap(r)+"::") + "::" + gap(r) + quoted
	case api.OpVar:
		return e.S
	case api.OpSet, api.OpRecord:
		var parts []string
		for i := range e.Kids {
			ahead := ""
			if e.Op == api.OpRecord {
				ahead = label(r, e.Names[i]) + gap(r) + ":"
			}
			parts = append(parts, ahead+kid(i, 0))
		}
		s := strings.Join(parts, gap(r)+",")
		if e.Op == api.OpRecord {
			return "{" + s + gap(r) + "}"
		}
		return "[" + s + gap(r) + "]"
	case api.OpAttr:
		if value.Name(e.S) && r.Intn(3) > 0 {
			return kid(0, of) + gap(r) + "." + gap(r) + e.S
		}
		return kid(0, of) + "[" + gap(r) + quoted + "]"
	case api.OpHas:
		return kid(0, of+1) + gap(r) + "has" + gap(r) + label(r, e.S)
	case api.OpIs:
		return kid(0, of+1) + gap(r) + "is" + gap(r) + e.T
	case api.OpLike:
		return kid(0, of+1) + gap(r) + "like" + quoted
	case api.OpNot:
		return "!" + kid(0, of)
	case api.OpNeg:
		return "-" + gap(r) + kid(0, of)
	case api.OpIf:
		return "if" + gap(r) + kid(0, 0) + gap(r) + "then" + gap(r) + kid(1, 0) + gap(r) + "else" + gap(r) + kid(2, 0)
	case api.OpContains, api.OpAll, api.OpAny:
		return kid(0, of) + gap(r) + "." + signOf(e.Op) + gap(r) + "(" + kid(1, 0) + gap(r) + ")"
	}
	left := of
	if of == 3 {
		left++
	}
	return kid(0, left) + gap(r) + signOf(e.Op) + gap(r) + kid(1, of+1)
}

// Promises 8.2, 8.5 and 8.6, and words: expressions are read from texts of theirs with as few brackets as may be.
func TestReadOfSparseTexts(t *testing.T) {
	r := rand.New(rand.NewSource(86))
	asked := 0
	for range 20000 {
		e := anyExpr(r, 1+r.Intn(6))
		s := sparse(r, e, 0)
		if len(s) > 2048 || expr.Check(e) != api.OK {
			continue
		}
		asked++
		got, why, place := expr.Parse(s)
		if !alike(got, e) || why != api.OK || place != 0 {
			t.Fatalf("%v as %q is read %v, error %d at %d", e, s, got, why, place)
		}
		printed, why := expr.Print(got)
		if why != api.OK {
			t.Fatalf("%q, read, is printed: error %d", s, why)
		}
		if len(printed) > 2048 {
			continue
		}
		if again, why, _ := expr.Parse(printed); !alike(again, e) || why != api.OK {
			t.Fatalf("%q, read, is printed %q, read %v, error %d", s, printed, again, why)
		}
	}
	if asked < 10000 {
		t.Errorf("%d texts", asked)
	}
}

// Promise 8.2: texts of all of the grammar, and what they are.
func TestParse(t *testing.T) {
	p, c := variable("principal"), variable("context")
	for s, want := range map[string]api.Expr{
		`true`: boolean(1), `false`: boolean(0), `0`: long(0), `9223372036854775807`: long(1<<63 - 1), `"a\*"`: text(`a\*`), `principal`: p,
		`A::"x"`: being("A", "x"), `A :: B :: "\n"`: being("A::B", "\n"), `contains::"x"`: being("contains", "x"),
		`(true)`: boolean(1), `((((true))))`: boolean(1),
		`[]`: set(), `[[]]`: set(set()), `[1,2]`: set(long(1), long(2)), `["a"]`: set(text("a")), `[if true then 1 else 2]`: set(node(api.OpIf, boolean(1), long(1), long(2))),
		`{}`: record(""), `{b:1,"a":2}`: record("b,a", long(1), long(2)), `{"in": {}}`: record("in", record("")), `{"x y": 1 || 2}`: record("x y", node(api.OpOr, long(1), long(2))),
		`principal.a.b`: attr(attr(p, "a"), "b"), `principal["a"]["x y"].c`: attr(attr(attr(p, "a"), "x y"), "c"), `principal.contains`: attr(p, "contains"), `principal["contains"]`: attr(p, "contains"), `principal.containsAll.containsAny`: attr(attr(p, "containsAll"), "containsAny"),
		`principal.contains(1)`: node(api.OpContains, p, long(1)), `[1].containsAll([])`: node(api.OpAll, set(long(1)), set()), `principal.containsAny(context).a`: attr(node(api.OpAny, p, c), "a"), `principal.a.contains(if 1 then 2 else 3)`: node(api.OpContains, attr(p, "a"), node(api.OpIf, long(1), long(2), long(3))),
		`!true`: node(api.OpNot, boolean(1)), `!!-1`: node(api.OpNot, node(api.OpNot, node(api.OpNeg, long(1)))), `-principal.a`: node(api.OpNeg, attr(p, "a")), `(-principal).a`: attr(node(api.OpNeg, p), "a"), `!principal["a"].contains(1)`: node(api.OpNot, node(api.OpContains, attr(p, "a"), long(1))), `1--1`: node(api.OpSub, long(1), node(api.OpNeg, long(1))), `-1*-2`: node(api.OpMul, node(api.OpNeg, long(1)), node(api.OpNeg, long(2))),
		`principal has a`: asked(api.OpHas, p, "a"), `principal has "in"`: asked(api.OpHas, p, "in"), `1 + 2 has a`: asked(api.OpHas, node(api.OpAdd, long(1), long(2)), "a"), `principal is A::B`: is(p, "A::B"), `principal is A && true`: node(api.OpAnd, is(p, "A"), boolean(1)), `principal.n like "a*\*"`: asked(api.OpLike, attr(p, "n"), `a*\*`), `!principal has a`: asked(api.OpHas, node(api.OpNot, p), "a"),
		`principal in A::"x"`: node(api.OpIn, p, being("A", "x")), `principal in [A::"x", context]`: node(api.OpIn, p, set(being("A", "x"), c)),
		`if true then 1 else if false then 2 else 3 == 4`: node(api.OpIf, boolean(1), long(1), node(api.OpIf, boolean(0), long(2), node(api.OpEqual, long(3), long(4)))), `if if true then true else false then 1 else 2`: node(api.OpIf, node(api.OpIf, boolean(1), boolean(1), boolean(0)), long(1), long(2)),
		`principal.b == 1 || !context.c`: node(api.OpOr, node(api.OpEqual, attr(p, "b"), long(1)), node(api.OpNot, attr(c, "c"))),
		" true // it is\n":               boolean(1),
	} {
		e, why, place := expr.Parse(s)
		if !alike(e, want) || why != api.OK || place != 0 {
			t.Errorf("%q is read %v, error %d at %d; not %v", s, e, why, place, want)
		}
	}
}

// Promise 8.6, and words: of two operators in a row the one of the higher rank is put together first, of one rank the left one; two relations do not stand in a row.
func TestRanks(t *testing.T) {
	a, b, c := long(1), variable("principal"), text("c")
	for _, one := range pairs()[:12] {
		for _, two := range pairs()[:12] {
			s := `1 ` + signOf(one) + ` principal ` + signOf(two) + ` "c"`
			e, why, place := expr.Parse(s)
			switch {
			case rank(one) == 3 && rank(two) == 3:
				if !zero(e) || why != api.ErrSyntax || place != strings.LastIndex(s, signOf(two)) {
					t.Errorf("%q: %v, error %d at %d", s, e, why, place)
				}
			case rank(two) > rank(one):
				if want := node(one, a, node(two, b, c)); !alike(e, want) || why != api.OK {
					t.Errorf("%q: %v, error %d", s, e, why)
				}
			default:
				if want := node(two, node(one, a, b), c); !alike(e, want) || why != api.OK {
					t.Errorf("%q: %v, error %d", s, e, why)
				}
			}
			signed, why, _ := expr.Parse(`-1 ` + signOf(one) + ` !principal.a`)
			if want := node(one, node(api.OpNeg, a), node(api.OpNot, attr(b, "a"))); !alike(signed, want) || why != api.OK {
				t.Errorf("with signs, %q: %v, error %d", signOf(one), signed, why)
			}
		}
	}
}

// Promise 8.2: what is no expression, and the place of the first token that is not what may come, or of the text's end.
func TestParseOfNone(t *testing.T) {
	long65 := strings.Repeat("n", 65)
	for _, x := range []struct {
		s     string
		place int
	}{
		{``, 0}, {` `, 1}, {`// x`, 4}, {`a`, 1}, {`a.b == 1`, 1}, {`a::`, 3}, {`a::b`, 4}, {`a::b.c`, 4}, {`a::1`, 3}, {`a::in::"x"`, 3}, {`a:b`, 1}, {`in::"x"`, 0}, {`true::"x"`, 4}, {`principal::"x"`, 9}, {`permit`, 0}, {`entity::"x"`, 0}, {`Then`, 4},
		{`1 2`, 2}, {`1 a`, 2}, {`true false`, 5}, {`"a" "b"`, 4}, {`principal principal`, 10}, {`1)`, 1}, {`1 ; `, 2}, {`1,`, 1}, {`1 then`, 2}, {`User::"a"::"b"`, 9}, {`1 if`, 2},
		{`(`, 1}, {`()`, 1}, {`(1`, 2}, {`(1]`, 2}, {`(1,2)`, 2}, {`[`, 1}, {`[1`, 2}, {`[1 2]`, 3}, {`[,]`, 1}, {`[1,]`, 3}, {`[1,,2]`, 3}, {`[}`, 1}, {`[1;]`, 2}, {`]`, 0},
		{`{`, 1}, {`{a}`, 2}, {`{a:}`, 3}, {`{a:1`, 4}, {`{a:1,}`, 5}, {`{a:1 b:2}`, 5}, {`{1:1}`, 1}, {`{in:1}`, 1}, {`{"a" 1}`, 5}, {`{a::1}`, 2}, {`{,}`, 1}, {`}`, 0}, {`{` + long65 + `:1}`, 1},
		{`principal.`, 10}, {`principal.1`, 10}, {`principal."a"`, 10}, {`principal.in`, 10}, {`principal.principal`, 10}, {`principal.` + long65, 10}, {`principal[`, 10}, {`principal[1]`, 10}, {`principal[a]`, 10}, {`principal["a"`, 13}, {`principal["a")`, 13}, {`principal["a","b"]`, 13}, {`principal[]`, 10}, {`principal..a`, 10}, {`principal::a`, 9},
		{`principal.a(1)`, 11}, {`principal.contains(`, 19}, {`principal.contains()`, 19}, {`principal.contains(1`, 20}, {`principal.contains(1,2)`, 20}, {`principal["contains"](1)`, 21}, {`contains(1)`, 8}, {`principal.Contains(1)`, 18},
		{`!`, 1}, {`-`, 1}, {`!-`, 2}, {`+1`, 0}, {`*`, 0}, {`1 +`, 3}, {`1 + + 2`, 4}, {`1 + if 1 then 2 else 3`, 4}, {`!if 1 then 2 else 3`, 1}, {`1 *`, 3}, {`1 * * 2`, 4}, {`1 ||`, 4}, {`|| 1`, 0}, {`1 && || 2`, 5}, {`1 == `, 5}, {`1 == == 2`, 5}, {`1 == 2 == 3`, 7}, {`1 < 2 < 3`, 6}, {`1 in 2 in 3`, 7}, {`1 == 2 has a`, 7}, {`1 has a has b`, 8}, {`1 is A is B`, 7}, {`1 like "a" == 2`, 11}, {`1 has a.b`, 7}, {`1 has a + 1`, 8}, {`1 is A.b`, 6}, {`1 is A in 2`, 7},
		{`1 has`, 5}, {`1 has 1`, 6}, {`1 has in`, 6}, {`1 has (a)`, 6}, {`1 has ` + long65, 6}, {`1 is`, 4}, {`1 is "A"`, 5}, {`1 is A::`, 8}, {`1 is A::"b"`, 8}, {`1 is in`, 5}, {`1 is A::in`, 8}, {`1 like`, 6}, {`1 like a`, 7}, {`1 like 1`, 7}, {`1 like ("a")`, 7}, {`1 is ` + long65, 5}, {long65 + `::"a"`, 0}, {`a::` + long65 + `::"a"`, 3},
		{`if`, 2}, {`if 1`, 4}, {`if 1 then`, 9}, {`if 1 then 2`, 11}, {`if 1 then 2 else`, 16}, {`if 1 else 2`, 5}, {`if then 2 else 3`, 3}, {`then`, 0}, {`if 1 then 2 else 3 else 4`, 19}, {`if 1, 2`, 4}, {`1 == if 1 then 2 else 3`, 5},
		{strings.Repeat("(", 2048), 2048}, {strings.Repeat("[", 2047) + ")", 2047}, {strings.Repeat("!", 2047) + ")", 2047}, {strings.Repeat("1+", 1024), 2048},
	} {
		e, why, place := expr.Parse(x.s)
		if !zero(e) || why != api.ErrSyntax || place != x.place {
			t.Errorf("%.60q: %v, error %d at %d, not at %d", x.s, e, why, place, x.place)
		}
		// Read has the same ahead of the end of what it is of.
		l, _, _ := token.Cut(x.s)
		got, n, why, place := expr.Read(l, len(x.s))
		if why == api.OK {
			if zero(got) || n >= len(l) || place != 0 || l[n].At != x.place {
				t.Errorf("%.60q: Read of %d, at %d", x.s, n, place)
			}
		} else if !zero(got) || n != 0 || why != api.ErrSyntax || place != x.place {
			t.Errorf("%.60q: Read: %v, %d, error %d at %d", x.s, got, n, why, place)
		}
	}
}

// Promise 8.2: Cut's errors, and their places; they go ahead of all else.
func TestParseOfNoTokens(t *testing.T) {
	for _, x := range []struct {
		s     string
		why   api.Errno
		place int
	}{
		{`1 = 2`, api.ErrSyntax, 2}, {`) @`, api.ErrSyntax, 2}, {`01`, api.ErrSyntax, 0}, {`) "`, api.ErrSyntax, 2}, {"1 2 3 \"\xff\"", api.ErrUtf, 6}, {`) "` + strings.Repeat("a", 257) + `"`, api.ErrLong, 2}, {`-9223372036854775808`, api.ErrSyntax, 1}, {strings.Repeat(" ", 2049), api.ErrLong, 0}, {strings.Repeat(")", 1<<20), api.ErrLong, 0},
	} {
		e, why, place := expr.Parse(x.s)
		if !zero(e) || why != x.why || place != x.place {
			t.Errorf("%.60q: %v, error %d at %d, not %d at %d", x.s, e, why, place, x.why, x.place)
		}
	}
	if e, why, place := expr.Parse(strings.Repeat(" ", 2047) + "1"); !alike(e, long(1)) || why != api.OK || place != 0 {
		t.Errorf("as long as it may be: %v, error %d at %d", e, why, place)
	}
}

// Promise 8.2: what is read as an expression, but is not right: Check's error, at the first token.
func TestReadOfWrongOnes(t *testing.T) {
	long65, whole := strings.Repeat("n", 65), strings.Repeat("é", 32)
	ones := strings.TrimSuffix(strings.Repeat("1,", 16), ",")
	sum := "(" + strings.TrimSuffix(strings.Repeat("1+", 8), "+") + ")"
	for _, x := range []struct {
		s   string
		why api.Errno
	}{
		{`A::"` + long65 + `"`, api.ErrSyntax}, {`A::"` + whole + `"`, api.OK}, {`A::"` + whole + `1"`, api.ErrSyntax},
		{`AA::` + long65[:60] + `::"x"`, api.OK}, {`AAA::` + long65[:60] + `::"x"`, api.ErrSyntax}, {`1 is AA::` + long65[:60], api.OK}, {`1 is AAA::` + long65[:60], api.ErrSyntax}, {`1 is ` + long65[:64], api.OK},
		{`1[""]`, api.ErrSyntax}, {`1["` + long65 + `"]`, api.ErrSyntax}, {`1["` + whole + `"]`, api.OK}, {`1.` + long65[:64], api.OK}, {`1 has ""`, api.ErrSyntax}, {`1 has "` + long65 + `"`, api.ErrSyntax}, {`{"": 1}`, api.ErrSyntax}, {`{"` + long65 + `": 1}`, api.ErrSyntax}, {`{"` + long65[:64] + `": 1}`, api.OK},
		{`{a: 1, a: 2}`, api.ErrSyntax}, {`{a: 1, b: 3, "a": 2}`, api.ErrSyntax}, {`[{"\n": 1, "\n": 1}]`, api.ErrSyntax}, {`{a: {a: 1}}`, api.OK},
		{`[` + ones + `]`, api.OK}, {`[` + ones + `,1]`, api.ErrSyntax}, {`{a:1,b:1,c:1,d:1,e:1,f:1,g:1,h:1,i:1,j:1,k:1,l:1,m:1,n:1,o:1,p:1}`, api.OK}, {`{a:1,b:1,c:1,d:1,e:1,f:1,g:1,h:1,i:1,j:1,k:1,l:1,m:1,n:1,o:1,p:1,q:1}`, api.ErrSyntax},
		{strings.Repeat("!", 15) + "1", api.OK}, {strings.Repeat("!", 16) + "1", api.ErrDepth}, {strings.Repeat("-", 2047) + "1", api.ErrDepth}, {strings.Repeat("(", 1023) + "1" + strings.Repeat(")", 1023), api.OK}, {strings.Repeat("1+", 15) + "1", api.OK}, {strings.Repeat("1+", 16) + "1", api.ErrDepth}, {strings.Repeat("1*", 1023) + "1", api.ErrDepth}, {"1" + strings.Repeat(".a", 15), api.OK}, {"1" + strings.Repeat(".a", 16), api.ErrDepth}, {strings.Repeat("[", 16) + strings.Repeat("]", 16), api.OK}, {strings.Repeat("[", 17) + strings.Repeat("]", 17), api.ErrDepth},
		{`[` + strings.TrimSuffix(strings.Repeat(sum+",", 8), ",") + `,1,1,1,1,1,1,1]`, api.OK}, {`[` + strings.TrimSuffix(strings.Repeat(sum+",", 8), ",") + `,1,1,1,1,1,1,1,1]`, api.ErrMany},
		{`[` + strings.TrimSuffix(strings.Repeat(sum+",", 9), ",") + `,` + strings.Repeat("!", 16) + `1]`, api.ErrDepth}, {`[` + strings.Repeat("!", 16) + `1, 1[""]]`, api.ErrSyntax}, {`[` + strings.TrimSuffix(strings.Repeat(sum+",", 9), ",") + `,1[""]]`, api.ErrSyntax},
	} {
		for _, ahead := range []string{"", "  ", "// x\n"} {
			// What is not right goes ahead of what stands behind it, but not of what may not come within.
			for _, behind := range []string{"", " ", " )", " 1"} {
				s := ahead + x.s + behind
				if len(s) > 2048 {
					continue
				}
				why, place := x.why, len(ahead)
				switch {
				case why == api.OK && len(behind) > 1:
					why, place = api.ErrSyntax, len(s)-1
				case why == api.OK:
					place = 0
				}
				e, got, there := expr.Parse(s)
				if got != why || there != place || zero(e) != (why != api.OK) {
					t.Errorf("%.90q: error %d at %d, not %d at %d", s, got, there, why, place)
				}
			}
		}
		s := "(" + x.s
		if e, why, place := expr.Parse(s); len(s) <= 2048 && (!zero(e) || why != api.ErrSyntax || place != len(s)) {
			t.Errorf("%.90q: error %d at %d", s, why, place)
		}
	}
}

// Promise 8.2 of Read: how many tokens the longest expression has, from any place of a text on, and any end.
func TestRead(t *testing.T) {
	for _, x := range []struct {
		s    string
		skip int
		want api.Expr
		n    int
	}{
		{`1`, 0, long(1), 1}, {`1 }`, 0, long(1), 1}, {`1 + 2 } ;`, 0, node(api.OpAdd, long(1), long(2)), 3}, {`when { true } unless`, 2, boolean(1), 1}, {`{} ;`, 0, record(""), 2}, {`{a: 1}; 2`, 0, record("a", long(1)), 5}, {`principal principal`, 0, variable("principal"), 1}, {`(1) (2)`, 0, long(1), 3}, {`1 2 3`, 1, long(2), 1}, {`1 == 2 == 3`, 0, node(api.OpEqual, long(1), long(2)), 3}, {`A::"x"::B`, 0, being("A", "x"), 3}, {`principal.a(1)`, 0, attr(variable("principal"), "a"), 3}, {`true::x`, 0, boolean(1), 1}, {`1 then 2`, 0, long(1), 1}, {`if 1 then 2 else 3 else 4`, 0, node(api.OpIf, long(1), long(2), long(3)), 6}, {`[1] 2`, 0, set(long(1)), 3},
	} {
		l, _, _ := token.Cut(x.s)
		e, n, why, place := expr.Read(l[x.skip:], -5)
		if !alike(e, x.want) || n != x.n || why != api.OK || place != 0 {
			t.Errorf("%q: %v, %d, error %d at %d", x.s, e, n, why, place)
		}
	}
	for _, end := range []int{0, 9, -1, 1<<63 - 1, -1 << 63} {
		l, _, _ := token.Cut(`  1 +`)
		for _, tokens := range [][]api.Token{nil, {}, l, l[:0:0]} {
			if e, n, why, place := expr.Read(tokens, end); !zero(e) || n != 0 || why != api.ErrSyntax || place != end {
				t.Errorf("%v, end %d: %v, %d, error %d at %d", tokens, end, e, n, why, place)
			}
		}
		wrong, _, _ := token.Cut(`1 +   1["" ] 2`)
		if e, n, why, place := expr.Read(wrong[2:], end); !zero(e) || n != 0 || why != api.ErrSyntax || place != 6 {
			t.Errorf("end %d: %v, %d, error %d at %d", end, e, n, why, place)
		}
	}
}

// P1 and P2: tokens made by hand, such as no text has, and any many of them.
func TestReadOfAnyTokens(t *testing.T) {
	r := rand.New(rand.NewSource(12))
	texts := []string{"", "1", "a", "if", "true", "principal", "(", ")", "[", "]", "{", "}", "==", ".", "::", ":", "-", "!", "+", "in", "like", "contains", "\xff", "a b", strings.Repeat("a", 300), "é"}
	for range 40000 {
		l := make([]api.Token, r.Intn(8))
		for i := range l {
			l[i] = api.Token{Kind: api.TokenKind(r.Intn(7)), Text: oneOf(r, texts), N: int64(r.Intn(4)) - 1, At: r.Intn(9) - 3}
		}
		e, n, why, place := expr.Read(l, -9)
		if why == api.OK && (expr.Check(e) != api.OK || n < 1 || n > len(l) || place != 0) || why != api.OK && (!zero(e) || n != 0 || why != api.ErrSyntax) {
			t.Fatalf("%v: %v, %d, error %d at %d", l, e, n, why, place)
		}
	}
	for _, s := range []string{"(", "[", "!", "-", "{a:", "if", "1+", "1*", "1||", "principal.contains(", "[1,", "if 1 then", "A::", "1.a."} {
		part, _, _ := token.Cut(s)
		l := make([]api.Token, 0, 1<<20)
		for len(l)+len(part) < cap(l) {
			l = append(l, part...)
		}
		for _, last := range []api.Token{{}, {Kind: api.TokenLong}, {Kind: api.TokenSign, Text: ")"}} {
			if e, n, why, _ := expr.Read(append(l, last), 1); !zero(e) || n != 0 || why == api.OK {
				t.Errorf("%q, very often: %d, error %d", s, n, why)
			}
		}
	}
}
