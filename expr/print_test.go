package expr_test

import (
	"math"
	"math/rand"
	"strings"
	"testing"

	"lictor/api"
	"lictor/expr"
)

// Promise 8.3: what is printed of each op.
func TestPrint(t *testing.T) {
	p, a, b, c := variable("principal"), long(1), long(2), text("c")
	for _, x := range []struct {
		e    api.Expr
		want string
	}{
		{boolean(0), `false`}, {boolean(1), `true`}, {a, `1`}, {long(0), `0`}, {long(math.MaxInt64), `9223372036854775807`},
		{text(""), `""`}, {text("a\"\\\n\t\x00\\*é"), `"a\"\\\n\t\0\*é"`},
		{being("User", "a"), `User::"a"`}, {being("A::B", "\n\\*"), `A::B::"\n\*"`},
		{p, `principal`}, {variable("action"), `action`}, {variable("resource"), `resource`}, {variable("context"), `context`},
		{set(), `[]`}, {set(a), `[1]`}, {set(a, b, c), `[1, 2, "c"]`}, {set(set(), record("")), `[[], {}]`},
		{record(""), `{}`}, {record("a", b), `{a: 2}`}, {record("b,a,in,x y,\n", a, b, c, a, b), `{b: 1, a: 2, "in": "c", "x y": 1, "\n": 2}`},
		{attr(p, "a"), `principal.a`}, {attr(p, "in"), `principal["in"]`}, {attr(p, "true"), `principal["true"]`}, {attr(p, "x y"), `principal["x y"]`}, {attr(p, "1"), `principal["1"]`}, {attr(p, "é"), `principal["é"]`}, {attr(p, `\*`), `principal["\*"]`}, {attr(p, "contains"), `principal.contains`}, {attr(p, strings.Repeat("n", 64)), `principal.` + strings.Repeat("n", 64)},
		{attr(attr(p, "a"), "b"), `principal.a.b`}, {attr(attr(p, "-"), "b"), `principal["-"].b`}, {attr(a, "b"), `1.b`}, {attr(c, "b"), `"c".b`}, {attr(being("A", "b"), "c"), `A::"b".c`}, {attr(set(c), "c"), `["c"].c`}, {attr(set(c), "in"), `["c"]["in"]`}, {attr(record("a", c), "a"), `{a: "c"}.a`}, {attr(node(api.OpAdd, a, b), "a"), `(1 + 2).a`},
		{asked(api.OpHas, p, "a"), `(principal has a)`}, {asked(api.OpHas, p, "is"), `(principal has "is")`}, {asked(api.OpHas, p, "x y"), `(principal has "x y")`}, {asked(api.OpHas, node(api.OpNot, p), "a"), `(!principal has a)`},
		{is(p, "User"), `(principal is User)`}, {is(p, "A::B"), `(principal is A::B)`},
		{asked(api.OpLike, p, `a*\*\b`), `(principal like "a*\*\\b")`}, {asked(api.OpLike, p, ""), `(principal like "")`}, {asked(api.OpLike, p, "name"), `(principal like "name")`},
		{node(api.OpNot, p), `!principal`}, {node(api.OpNeg, a), `-1`}, {node(api.OpNot, node(api.OpNeg, node(api.OpNot, p))), `!-!principal`}, {node(api.OpNeg, node(api.OpNeg, a)), `--1`}, {node(api.OpNeg, node(api.OpSub, a, b)), `-(1 - 2)`}, {node(api.OpNot, attr(p, "a")), `!principal.a`}, {node(api.OpNeg, attr(p, "-")), `-principal["-"]`},
		{attr(node(api.OpNot, p), "b"), `(!principal).b`}, {attr(node(api.OpNeg, p), "b"), `(-principal).b`}, {attr(node(api.OpNot, p), "in"), `(!principal)["in"]`}, {attr(node(api.OpNeg, p), "in"), `(-principal)["in"]`}, {attr(node(api.OpNot, node(api.OpNot, p)), "b"), `(!!principal).b`},
		{node(api.OpIf, p, a, b), `(if principal then 1 else 2)`}, {node(api.OpIf, node(api.OpIf, p, p, p), node(api.OpNot, p), set()), `(if (if principal then principal else principal) then !principal else [])`}, {attr(node(api.OpIf, p, a, b), "c"), `(if principal then 1 else 2).c`},
		{node(api.OpAnd, p, a), `(principal && 1)`}, {node(api.OpOr, p, a), `(principal || 1)`}, {node(api.OpEqual, p, a), `(principal == 1)`}, {node(api.OpUnlike, p, a), `(principal != 1)`}, {node(api.OpLess, p, a), `(principal < 1)`}, {node(api.OpMost, p, a), `(principal <= 1)`}, {node(api.OpMore, p, a), `(principal > 1)`}, {node(api.OpLeast, p, a), `(principal >= 1)`}, {node(api.OpIn, p, a), `(principal in 1)`}, {node(api.OpAdd, p, a), `(principal + 1)`}, {node(api.OpSub, p, a), `(principal - 1)`}, {node(api.OpMul, p, a), `(principal * 1)`},
		{node(api.OpSub, a, node(api.OpNeg, b)), `(1 - -2)`}, {node(api.OpAdd, node(api.OpAdd, a, b), node(api.OpAdd, a, b)), `((1 + 2) + (1 + 2))`},
		{node(api.OpContains, p, a), `principal.contains(1)`}, {node(api.OpAll, p, set(a)), `principal.containsAll([1])`}, {node(api.OpAny, set(), node(api.OpAdd, a, b)), `[].containsAny((1 + 2))`}, {node(api.OpContains, node(api.OpNot, p), node(api.OpNot, a)), `(!principal).contains(!1)`}, {node(api.OpAll, node(api.OpNeg, p), a), `(-principal).containsAll(1)`}, {node(api.OpAny, node(api.OpAny, p, a), b), `principal.containsAny(1).containsAny(2)`}, {node(api.OpContains, attr(p, "contains"), a), `principal.contains.contains(1)`},
	} {
		s, why := expr.Print(x.e)
		if s != x.want || why != api.OK {
			t.Errorf("%v: %q, error %d; not %q", x.e, s, why, x.want)
		}
		if e, why, place := expr.Parse(s); !alike(e, x.e) || why != api.OK || place != 0 {
			t.Errorf("%q is read %v, error %d at %d", s, e, why, place)
		}
	}
}

// Promise 8.5, and P5: right expressions are read from what is printed of them, where that is not too long.
func TestThereAndBack(t *testing.T) {
	l := append(rightOnes(), nested(16), wide(128))
	r := rand.New(rand.NewSource(85))
	for range 30000 {
		l = append(l, anyExpr(r, 1+r.Intn(6)))
	}
	short := 0
	for _, e := range l {
		s, why := expr.Print(e)
		if why != expr.Check(e) {
			t.Fatalf("%v: error %d", e, why)
		}
		if why != api.OK {
			continue
		}
		got, why, place := expr.Parse(s)
		if len(s) > 2048 {
			if !zero(got) || why != api.ErrLong || place != 0 {
				t.Fatalf("a text of %d bytes: error %d at %d", len(s), why, place)
			}
			continue
		}
		short++
		if !alike(got, e) || why != api.OK || place != 0 {
			t.Fatalf("%v is printed %q, read %v, error %d at %d", e, s, got, why, place)
		}
	}
	if short < 20000 {
		t.Errorf("%d texts are not too long", short)
	}
}

// Promise 8.3: an expression may be right though its text is too long to be read.
func TestLongPrints(t *testing.T) {
	s, why := expr.Print(set(times(16, text(strings.Repeat("\n", 256)))...))
	if want := "[" + strings.Repeat(`"`+strings.Repeat(`\n`, 256)+`", `, 15) + `"` + strings.Repeat(`\n`, 256) + `"]`; s != want || why != api.OK {
		t.Errorf("%d bytes, error %d", len(s), why)
	}
}
