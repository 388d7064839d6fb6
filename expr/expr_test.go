package expr_test

import (
	"math"
	"math/rand"
	"reflect"
	"runtime"
	"slices"
	"strconv"
	"strings"
	"testing"
	"unicode/utf8"

	"lictor/api"
	"lictor/expr"
	"lictor/value"
)

// node is an op of Kids alone.
func node(op api.Op, kids ...api.Expr) api.Expr { return api.Expr{Op: op, Kids: kids} }

// boolean is true or false.
func boolean(n int64) api.Expr { return api.Expr{Op: api.OpBool, N: n} }

func long(n int64) api.Expr { return api.Expr{Op: api.OpLong, N: n} }

func text(s string) api.Expr { return api.Expr{Op: api.OpString, S: s} }

func being(kind, id string) api.Expr { return api.Expr{Op: api.OpEntity, T: kind, S: id} }

func variable(s string) api.Expr { return api.Expr{Op: api.OpVar, S: s} }

func set(kids ...api.Expr) api.Expr { return node(api.OpSet, kids...) }

// record is one of names with commas between.
func record(names string, kids ...api.Expr) api.Expr {
	e := node(api.OpRecord, kids...)
	if names != "" {
		e.Names = strings.Split(names, ",")
	}
	return e
}

// asked is an op of one Kid that has S.
func asked(op api.Op, e api.Expr, s string) api.Expr {
	return api.Expr{Op: op, S: s, Kids: []api.Expr{e}}
}

func attr(e api.Expr, s string) api.Expr { return asked(api.OpAttr, e, s) }

func is(e api.Expr, kind string) api.Expr {
	return api.Expr{Op: api.OpIs, T: kind, Kids: []api.Expr{e}}
}

// with is e, changed.
func with(e api.Expr, change func(e *api.Expr)) api.Expr {
	e = again(e)
	change(&e)
	return e
}

// again is the same expression in memory of its own.
func again(e api.Expr) api.Expr {
	e.Names, e.Kids = slices.Clone(e.Names), slices.Clone(e.Kids)
	for i := range e.Kids {
		e.Kids[i] = again(e.Kids[i])
	}
	return e
}

// alike tells whether two expressions are the same; nil and empty lists are.
func alike(a, b api.Expr) bool {
	return a.Op == b.Op && a.N == b.N && a.S == b.S && a.T == b.T && slices.Equal(a.Names, b.Names) && slices.EqualFunc(a.Kids, b.Kids, alike)
}

// zero tells whether an expression is the zero one.
func zero(e api.Expr) bool { return reflect.ValueOf(e).IsZero() }

// times has an expression n times.
func times(n int, e api.Expr) []api.Expr {
	l := make([]api.Expr, n)
	for i := range l {
		l[i] = e
	}
	return l
}

// letters are n names, with commas between.
func letters(n int) string {
	return strings.Join(strings.Split("abcdefghijklmnopqrstuvwxyz"[:n], ""), ",")
}

// nested is a long within so many nots.
func nested(deep int) api.Expr {
	e := long(1)
	for range deep - 1 {
		e = node(api.OpNot, e)
	}
	return e
}

// wide is a set of sets of longs that has so many nodes in all, from 20 to 200.
func wide(nodes int) api.Expr {
	e := set()
	rest := nodes - 1 - 12
	for i := range 12 {
		take := rest / (12 - i)
		rest -= take
		e.Kids = append(e.Kids, set(times(take, long(7))...))
	}
	return e
}

// oneOf is one of a list by chance.
func oneOf[T any](r *rand.Rand, l []T) T { return l[r.Intn(len(l))] }

// pairs are the ops of two Kids.
func pairs() []api.Op {
	return []api.Op{api.OpAnd, api.OpOr, api.OpEqual, api.OpUnlike, api.OpLess, api.OpMost, api.OpMore, api.OpLeast, api.OpIn, api.OpAdd, api.OpSub, api.OpMul, api.OpContains, api.OpAll, api.OpAny}
}

// anyExpr is a right expression by chance, nested at most so deep.
func anyExpr(r *rand.Rand, deep int) api.Expr {
	names := []string{"a", "b", "_c9", "contains", "containsAll", "in", "x y", "é", "*", `\*`, "\n", "principal", "0", strings.Repeat("n", 64), strings.Repeat("é", 32)}
	texts := append(names, "", `\`, `"`, "\x00", "//", `a\*b*`)
	kinds := []string{"User", "A::B", "_", "contains", strings.Repeat("T", 64), "A::B::C"}
	if deep <= 1 || r.Intn(5) == 0 {
		switch r.Intn(7) {
		case 0:
			return boolean(int64(r.Intn(2)))
		case 1:
			return long(oneOf(r, []int64{0, 1, 42, math.MaxInt64}))
		case 2:
			return text(oneOf(r, texts))
		case 3:
			return being(oneOf(r, kinds), oneOf(r, texts))
		case 4:
			return set()
		case 5:
			return record("")
		}
		return variable(oneOf(r, []string{"principal", "action", "resource", "context"}))
	}
	kid := func() api.Expr { return anyExpr(r, deep-1) }
	switch r.Intn(12) {
	case 0:
		e := set()
		for range r.Intn(4) {
			e.Kids = append(e.Kids, kid())
		}
		return e
	case 1:
		e := record("")
		for _, i := range r.Perm(len(names))[:r.Intn(4)] {
			e.Names, e.Kids = append(e.Names, names[i]), append(e.Kids, kid())
		}
		return e
	case 2, 3:
		return asked(oneOf(r, []api.Op{api.OpAttr, api.OpHas}), kid(), oneOf(r, names))
	case 4:
		return asked(api.OpLike, kid(), oneOf(r, texts))
	case 5:
		return is(kid(), oneOf(r, kinds))
	case 6, 7:
		return node(oneOf(r, []api.Op{api.OpNot, api.OpNeg}), kid())
	case 8:
		return node(api.OpIf, kid(), kid(), kid())
	}
	return node(oneOf(r, pairs()), kid(), kid())
}

// shape is what an op's nodes have: which of N, S, T, Names (as n, s, t, l), and from least to most Kids.
type shape struct {
	fields      string
	least, most int
}

// shapes are those that chapter 8 and package api say.
func shapes() map[api.Op]shape {
	out := map[api.Op]shape{
		api.OpBool: {"n", 0, 0}, api.OpLong: {"n", 0, 0}, api.OpString: {"s", 0, 0}, api.OpEntity: {"st", 0, 0}, api.OpVar: {"s", 0, 0},
		api.OpSet: {"", 0, 16}, api.OpRecord: {"l", 0, 16},
		api.OpAttr: {"s", 1, 1}, api.OpHas: {"s", 1, 1}, api.OpIs: {"t", 1, 1}, api.OpLike: {"s", 1, 1}, api.OpNot: {"", 1, 1}, api.OpNeg: {"", 1, 1},
		api.OpIf: {"", 3, 3},
	}
	for _, op := range pairs() {
		out[op] = shape{"", 2, 2}
	}
	return out
}

// within tells whether s is UTF-8, and has from least to most bytes.
func within(s string, least, most int) bool {
	return utf8.ValidString(s) && least <= len(s) && len(s) <= most
}

// fits tells whether the fields that a node has may be.
func fits(e api.Expr) bool {
	switch e.Op {
	case api.OpBool:
		return e.N == 0 || e.N == 1
	case api.OpLong:
		return e.N >= 0
	case api.OpString, api.OpLike:
		return within(e.S, 0, 256)
	case api.OpEntity:
		return value.TypeName(e.T) && within(e.S, 0, 64)
	case api.OpVar:
		return e.S == "principal" || e.S == "action" || e.S == "resource" || e.S == "context"
	case api.OpAttr, api.OpHas:
		return within(e.S, 1, 64)
	case api.OpIs:
		return value.TypeName(e.T)
	}
	seen := map[string]bool{}
	for _, s := range e.Names {
		if !within(s, 1, 64) || seen[s] {
			return false
		}
		seen[s] = true
	}
	return true
}

// measure is how deep an expression is nested, how many nodes it has, and whether each one is right, as the shapes have it.
func measure(e api.Expr) (deep, nodes int, right bool) {
	s, there := shapes()[e.Op]
	has := func(field string) bool { return strings.Contains(s.fields, field) }
	right = there && s.least <= len(e.Kids) && len(e.Kids) <= s.most && fits(e) &&
		(has("n") || e.N == 0) && (has("s") || e.S == "") && (has("t") || e.T == "") && (has("l") && len(e.Names) == len(e.Kids) || len(e.Names) == 0 && !has("l"))
	nodes = 1
	for _, k := range e.Kids {
		d, n, ok := measure(k)
		deep, nodes, right = max(deep, d), nodes+n, right && ok
	}
	return deep + 1, nodes, right
}

// checked is what Check answers, as the shapes have it.
func checked(e api.Expr) api.Errno {
	deep, nodes, right := measure(e)
	switch {
	case !right:
		return api.ErrSyntax
	case deep > 16:
		return api.ErrDepth
	case nodes > 128:
		return api.ErrMany
	}
	return api.OK
}

// The sections Limits and Errors, as far as they speak of expr.
func TestLimitsAndErrors(t *testing.T) {
	if api.MaxLevel != 16 || api.MaxText != 2048 || api.MaxId != 64 || api.MaxString != 256 || api.MaxNodes != 128 || api.MaxParts != 16 {
		t.Error("a limit is another one")
	}
	if api.OK != 0 || api.ErrMany != 2 || api.ErrLong != 3 || api.ErrDepth != 4 || api.ErrSyntax != 5 || api.ErrUtf != 6 {
		t.Error("an error's number is another one")
	}
	for i, op := range []api.Op{api.OpNone, api.OpBool, api.OpLong, api.OpString, api.OpEntity, api.OpVar, api.OpSet, api.OpRecord, api.OpAttr, api.OpHas, api.OpIs, api.OpLike, api.OpNot, api.OpNeg, api.OpIf, api.OpAnd, api.OpOr, api.OpEqual, api.OpUnlike, api.OpLess, api.OpMost, api.OpMore, api.OpLeast, api.OpIn, api.OpAdd, api.OpSub, api.OpMul, api.OpContains, api.OpAll, api.OpAny, api.OpCount} {
		if int(op) != i {
			t.Errorf("op %d is %d", i, op)
		}
	}
}

// rightOnes are right expressions of each op, at its limits, too.
func rightOnes() []api.Expr {
	p := variable("principal")
	n64, n63 := strings.Repeat("n", 64), strings.Repeat("é", 31)+"n"
	l := []api.Expr{
		boolean(0), boolean(1), long(0), long(1), long(math.MaxInt64),
		text(""), text("\x00\\*\"\n"), text(strings.Repeat("é", 128)), text(strings.Repeat("a", 256)),
		being("User", ""), being("A::B", "\x00"), being(n64, n64), being("A", strings.Repeat("é", 32)),
		p, variable("action"), variable("resource"), variable("context"),
		set(), set(p), set(p, p), set(times(16, p)...),
		record(""), record("b,a", p, p), record("in,x y,\x00,é", p, p, p, p), record(letters(16), times(16, p)...), record(n64+","+n63, p, p),
		attr(p, "a"), attr(p, "in"), attr(p, "x y"), attr(p, "\x00"), attr(p, n64), attr(p, n63), asked(api.OpHas, p, "a"), asked(api.OpHas, p, n64), asked(api.OpHas, long(1), "true"),
		is(p, "User"), is(p, "A::B"), is(p, n64), asked(api.OpLike, p, ""), asked(api.OpLike, p, `*a\*`), asked(api.OpLike, p, strings.Repeat("*", 256)),
		node(api.OpNot, p), node(api.OpNeg, long(1)), node(api.OpNeg, text("")), node(api.OpIf, p, p, p),
	}
	for _, op := range pairs() {
		l = append(l, node(op, p, long(3)))
	}
	return l
}

// Promise 8.1, and words: right expressions of each op, and what is another one than they in one field.
func TestCheckOfEachOp(t *testing.T) {
	seen := map[api.Op]bool{}
	changes := []func(e *api.Expr){
		func(e *api.Expr) { e.N = 1 }, func(e *api.Expr) { e.N = -1 }, func(e *api.Expr) { e.N = 2 }, func(e *api.Expr) { e.N = math.MinInt64 },
		func(e *api.Expr) { e.S = "" }, func(e *api.Expr) { e.S = "x" }, func(e *api.Expr) { e.S = "\xff" }, func(e *api.Expr) { e.S = "context" }, func(e *api.Expr) { e.S = "entity" }, func(e *api.Expr) { e.S = strings.Repeat("a", 64) }, func(e *api.Expr) { e.S = strings.Repeat("a", 65) }, func(e *api.Expr) { e.S = strings.Repeat("é", 33) }, func(e *api.Expr) { e.S = strings.Repeat("a", 257) },
		func(e *api.Expr) { e.T = "" }, func(e *api.Expr) { e.T = "A" }, func(e *api.Expr) { e.T = "in" }, func(e *api.Expr) { e.T = "A::" }, func(e *api.Expr) { e.T = strings.Repeat("A", 65) }, func(e *api.Expr) { e.T = strings.Repeat("A", 31) + "::" + strings.Repeat("A", 32) },
		func(e *api.Expr) { e.Names = nil }, func(e *api.Expr) { e.Names = []string{} }, func(e *api.Expr) { e.Names = []string{"a"} }, func(e *api.Expr) { e.Names = []string{"a", "a"} }, func(e *api.Expr) { e.Names = []string{"a", ""} }, func(e *api.Expr) { e.Names = []string{"\xff", "b"} }, func(e *api.Expr) { e.Names = []string{"a", strings.Repeat("b", 65)} }, func(e *api.Expr) { e.Names = append(e.Names, "new") },
		func(e *api.Expr) { e.Kids = nil }, func(e *api.Expr) { e.Kids = []api.Expr{} }, func(e *api.Expr) { e.Kids = append(e.Kids, long(1)) }, func(e *api.Expr) { e.Kids = e.Kids[:max(0, len(e.Kids)-1)] }, func(e *api.Expr) { e.Kids = times(16, long(1)) }, func(e *api.Expr) { e.Kids = times(17, long(1)) },
		func(e *api.Expr) { e.Names, e.Kids = strings.Split(letters(17), ","), times(17, long(1)) },
	}
	for _, e := range rightOnes() {
		seen[e.Op] = true
		if why := expr.Check(e); why != api.OK {
			t.Errorf("%v: error %d", e, why)
		}
		for i, change := range changes {
			wrong := with(e, change)
			if why := expr.Check(wrong); why != checked(wrong) {
				t.Errorf("%v, change %d: error %d, not %d", e, i, why, checked(wrong))
			}
		}
		for op := range 256 {
			other := with(e, func(e *api.Expr) { e.Op = api.Op(op) })
			if why := expr.Check(other); why != checked(other) {
				t.Errorf("%v as op %d: error %d, not %d", e, op, why, checked(other))
			}
		}
		for n := range 20 {
			other := with(e, func(e *api.Expr) { e.Kids = times(n, long(1)) })
			if why := expr.Check(other); why != checked(other) {
				t.Errorf("%v of %d: error %d, not %d", e, n, why, checked(other))
			}
		}
	}
	if len(seen) != int(api.OpCount)-1 {
		t.Errorf("%d ops are asked of", len(seen))
	}
}

// Promise 8.1: that a Kid is not right shows, wherever it is.
func TestCheckOfKids(t *testing.T) {
	for _, e := range rightOnes() {
		for i := range e.Kids {
			for _, wrong := range []api.Expr{{}, long(-1), variable("x"), node(api.OpNot), attr(long(1), ""), node(api.OpNot, api.Expr{Op: api.OpCount})} {
				other := with(e, func(e *api.Expr) { e.Kids[i] = wrong })
				if why := expr.Check(other); why != api.ErrSyntax {
					t.Errorf("%v, with %v at %d: error %d", e, wrong, i, why)
				}
			}
		}
	}
}

// Promise 8.1: expressions at their limits, and beyond one of them or several.
func TestCheckOfLimits(t *testing.T) {
	left, right := long(1), long(1)
	for range 15 {
		left, right = node(api.OpAdd, left, long(1)), node(api.OpIf, long(1), long(1), right)
	}
	balanced := boolean(1)
	for range 6 {
		balanced = node(api.OpAnd, balanced, balanced)
	}
	for _, x := range []struct {
		name string
		e    api.Expr
		want api.Errno
	}{
		{"16 deep", nested(16), api.OK}, {"17 deep", nested(17), api.ErrDepth}, {"18 deep", nested(18), api.ErrDepth}, {"2^16 deep", nested(1 << 16), api.ErrDepth},
		{"16 deep on the left", left, api.OK}, {"16 deep on the right", right, api.OK},
		{"17 deep on the left", node(api.OpMul, left, long(1)), api.ErrDepth}, {"17 deep on the right", set(long(1), right), api.ErrDepth},
		{"127 nodes", balanced, api.OK}, {"128 nodes", node(api.OpNot, balanced), api.OK}, {"129 nodes", node(api.OpOr, balanced, long(1)), api.ErrMany},
		{"128 nodes of sets", wide(128), api.OK}, {"129 nodes of sets", wide(129), api.ErrMany}, {"200 nodes of sets", wide(200), api.ErrMany},
		{"too deep, too many", set(nested(16), wide(129)), api.ErrDepth}, {"too many, too deep", set(wide(150), nested(16)), api.ErrDepth},
		{"too deep, not right", set(nested(30), long(-1)), api.ErrSyntax}, {"not right, too deep", set(text("\xff"), nested(30)), api.ErrSyntax},
		{"too many, not right", set(wide(129), long(-1)), api.ErrSyntax}, {"all three", set(nested(30), wide(129), api.Expr{}), api.ErrSyntax},
		{"17 parts", set(times(17, long(1))...), api.ErrSyntax}, {"a wrong one very deep", with(nested(40), func(e *api.Expr) {
			for e.Op == api.OpNot {
				e = &e.Kids[0]
			}
			e.N = -1
		}), api.ErrSyntax},
	} {
		if why := expr.Check(x.e); why != x.want {
			t.Errorf("%s: error %d, not %d", x.name, why, x.want)
		}
		if s, why := expr.Print(x.e); why != x.want || (s == "") != (why != api.OK) {
			t.Errorf("%s is printed %.80q, error %d", x.name, s, why)
		}
	}
}

// anything is an expression made by hand, by chance: seldom right.
func anything(r *rand.Rand, deep int) api.Expr {
	if r.Intn(2) == 0 {
		return anyExpr(r, deep)
	}
	e := api.Expr{Op: api.Op(r.Intn(int(api.OpCount) + 2))}
	if r.Intn(4) == 0 {
		e.N = int64(r.Intn(5)) - 2
	}
	if r.Intn(3) == 0 {
		e.S = oneOf(r, []string{"a", "principal", "\xff", strings.Repeat("s", 65), strings.Repeat("s", 257)})
	}
	if r.Intn(4) == 0 {
		e.T = oneOf(r, []string{"A", "A::B", "in", "A:B", strings.Repeat("T", 65)})
	}
	for i := range r.Intn(4) {
		if deep > 1 {
			e.Kids = append(e.Kids, anything(r, deep-1))
		}
		if r.Intn(2) == 0 {
			e.Names = append(e.Names, oneOf(r, []string{"a", "b" + strconv.Itoa(i), "", "\xff"}))
		}
	}
	return e
}

// Promise 8.1, P1 and P2: expressions made by hand, by chance.
func TestAnyExpressions(t *testing.T) {
	r := rand.New(rand.NewSource(81))
	tally := map[api.Errno]int{}
	for range 40000 {
		e := anything(r, 1+r.Intn(7))
		before := again(e)
		why := expr.Check(e)
		tally[why]++
		if why != checked(e) {
			t.Fatalf("%v: error %d, not %d", e, why, checked(e))
		}
		s, reason := expr.Print(e)
		if reason != why || (s == "") != (why != api.OK) {
			t.Fatalf("%v: %q, error %d, not %d", e, s, reason, why)
		}
		if !alike(e, before) {
			t.Fatalf("%v was handed in, and is %v", before, e)
		}
	}
	if tally[api.OK] < 1000 || tally[api.ErrSyntax] < 1000 {
		t.Errorf("how often: %v", tally)
	}
}

// spoil writes over all that an expression's lists have, and over the room behind them.
func spoil(e api.Expr) {
	for i := range e.Names[:cap(e.Names)] {
		e.Names[:cap(e.Names)][i] = "spoilt"
	}
	for i := range e.Kids[:cap(e.Kids)] {
		spoil(e.Kids[:cap(e.Kids)][i])
		e.Kids[:cap(e.Kids)][i] = text("spoilt")
	}
}

// Promise 8.4, and P3: answers are new memory, no two lists of one share any, and what is handed in is not changed.
func TestNewMemory(t *testing.T) {
	s := `[{a: [1, 2], b: {}}, {a: [1, 2]}, (if true then 1 + 2 + 3 else -1), principal.a.contains(1)]`
	one, why, _ := expr.Parse(s)
	two, _, _ := expr.Parse(s)
	want := again(two)
	if why != api.OK || !alike(one, two) {
		t.Fatalf("error %d", why)
	}
	for i := range one.Kids {
		three, _, _ := expr.Parse(s)
		spoil(three.Kids[i])
		for j := range three.Kids {
			if j != i && !alike(three.Kids[j], want.Kids[j]) {
				t.Errorf("two lists of an answer share memory: those of %d and %d", i, j)
			}
		}
	}
	spoil(one)
	if !alike(two, want) {
		t.Error("two answers share memory")
	}
	roomy := with(want, func(e *api.Expr) { e.Kids = append(e.Kids, long(9))[:len(e.Kids)] })
	expr.Check(roomy)
	expr.Print(roomy)
	if !alike(roomy, want) || !alike(roomy.Kids[:len(roomy.Kids)+1][len(roomy.Kids)], long(9)) {
		t.Error("what was handed in is changed")
	}
}

// P4.
func TestNoGoroutineIsLeft(t *testing.T) {
	before := runtime.NumGoroutine()
	for _, e := range rightOnes() {
		s, _ := expr.Print(e)
		expr.Parse(s)
		expr.Check(e)
		expr.Read(nil, 0)
	}
	if after := runtime.NumGoroutine(); after > before {
		t.Errorf("%d goroutines, before %d", after, before)
	}
}
