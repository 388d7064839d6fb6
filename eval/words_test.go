package eval_test

import (
	"math/rand"
	"slices"
	"strings"
	"testing"

	"lictor/api"
	"lictor/entity"
	"lictor/eval"
	"lictor/expr"
	"lictor/value"
)

// asked is of what an expression is asked, as chapter 12's words have it.
type asked struct {
	q api.Request
	l []api.Entity
}

// being is an entity's value.
func being(u api.Uid) api.Value {
	return api.Value{Kind: api.KindEntity, T: u.Type, S: u.Id}
}

// comesTo is what an expression comes to.
func (a asked) comesTo(e api.Expr) (api.Value, api.Errno) {
	switch e.Op {
	case api.OpIf:
		return a.choice(e)
	case api.OpAnd, api.OpOr:
		return a.logic(e)
	}
	var kids []api.Value
	for _, k := range e.Kids {
		v, why := a.comesTo(k)
		if why != api.OK {
			return api.Value{}, why
		}
		kids = append(kids, v)
	}
	switch len(kids) {
	case 1:
		if e.Op != api.OpSet && e.Op != api.OpRecord {
			return a.ofOne(e, kids[0])
		}
	case 2:
		if e.Op != api.OpSet && e.Op != api.OpRecord {
			return a.ofTwo(e, kids[0], kids[1])
		}
	}
	return a.ofAny(e, kids)
}

func (a asked) choice(e api.Expr) (api.Value, api.Errno) {
	v, why := a.comesTo(e.Kids[0])
	switch {
	case why != api.OK:
		return api.Value{}, why
	case v.Kind != api.KindBool:
		return api.Value{}, api.ErrType
	case v.B:
		return a.comesTo(e.Kids[1])
	}
	return a.comesTo(e.Kids[2])
}

func (a asked) logic(e api.Expr) (api.Value, api.Errno) {
	for i, k := range e.Kids {
		v, why := a.comesTo(k)
		if why == api.OK && v.Kind != api.KindBool {
			why = api.ErrType
		}
		if why != api.OK {
			return api.Value{}, why
		}
		if i == 1 || v.B == (e.Op == api.OpOr) {
			return v, api.OK
		}
	}
	return api.Value{}, api.OK
}

// ofAny is of leaves, sets and records.
func (a asked) ofAny(e api.Expr, kids []api.Value) (api.Value, api.Errno) {
	v := api.Value{}
	switch e.Op {
	case api.OpBool:
		v = boolean(e.N == 1)
	case api.OpLong:
		v = long(e.N)
	case api.OpString:
		v = text(e.S)
	case api.OpEntity:
		v = being(api.Uid{Type: e.T, Id: e.S})
	case api.OpVar:
		v = map[string]api.Value{"principal": being(a.q.Principal), "action": being(a.q.Action), "resource": being(a.q.Resource), "context": a.q.Context}[e.S]
	case api.OpSet:
		v.Kind = api.KindSet
		for _, k := range kids {
			i := 0
			for i < len(v.List) && value.Compare(v.List[i], k) < 0 {
				i++
			}
			if i == len(v.List) || value.Compare(v.List[i], k) > 0 {
				v.List = slices.Insert(v.List, i, k)
			}
		}
	case api.OpRecord:
		v.Kind = api.KindRecord
		for at, k := range kids {
			i, _ := slices.BinarySearch(v.Names, e.Names[at])
			v.Names, v.List = slices.Insert(v.Names, i, e.Names[at]), slices.Insert(v.List, i, k)
		}
	}
	return v, api.OK
}

// attr is an attribute.
func (a asked) attr(v api.Value, name string) (api.Value, api.Errno) {
	if v.Kind == api.KindEntity {
		e, why := entity.Find(a.l, api.Uid{Type: v.T, Id: v.S})
		if why != api.OK {
			return api.Value{}, why
		}
		v = e.Attrs
	}
	if v.Kind != api.KindRecord {
		return api.Value{}, api.ErrType
	}
	if i := slices.Index(v.Names, name); i >= 0 {
		return v.List[i], api.OK
	}
	return api.Value{}, api.ErrMissing
}

func (a asked) ofOne(e api.Expr, v api.Value) (api.Value, api.Errno) {
	must := map[api.Op]api.Kind{api.OpIs: api.KindEntity, api.OpLike: api.KindString, api.OpNot: api.KindBool, api.OpNeg: api.KindLong}
	if kind, there := must[e.Op]; there && v.Kind != kind {
		return api.Value{}, api.ErrType
	}
	switch e.Op {
	case api.OpIs:
		return boolean(v.T == e.T), api.OK
	case api.OpLike:
		return boolean(matches(v.S, e.S)), api.OK
	case api.OpNot:
		return boolean(!v.B), api.OK
	case api.OpNeg:
		if v.N == -v.N && v.N != 0 {
			return api.Value{}, api.ErrOver
		}
		return long(-v.N), api.OK
	}
	part, why := a.attr(v, e.S)
	if e.Op == api.OpHas && why != api.ErrType {
		return boolean(why == api.OK), api.OK
	}
	return part, why
}

func (a asked) ofTwo(e api.Expr, v, w api.Value) (api.Value, api.Errno) {
	longs, sets := v.Kind == api.KindLong && w.Kind == api.KindLong, v.Kind == api.KindSet && w.Kind == api.KindSet
	among := []api.Value{w}
	if w.Kind == api.KindSet {
		among = w.List
	}
	beings := v.Kind == api.KindEntity && !slices.ContainsFunc(among, func(p api.Value) bool { return p.Kind != api.KindEntity })
	held := 0
	for _, p := range among {
		if slices.ContainsFunc(v.List, func(q api.Value) bool { return value.Compare(p, q) == 0 }) {
			held++
		}
	}
	switch {
	case e.Op == api.OpEqual || e.Op == api.OpUnlike:
		return boolean((value.Compare(v, w) == 0) == (e.Op == api.OpEqual)), api.OK
	case e.Op == api.OpLess && longs:
		return boolean(v.N < w.N), api.OK
	case e.Op == api.OpMost && longs:
		return boolean(v.N <= w.N), api.OK
	case e.Op == api.OpMore && longs:
		return boolean(v.N > w.N), api.OK
	case e.Op == api.OpLeast && longs:
		return boolean(v.N >= w.N), api.OK
	case (e.Op == api.OpAdd || e.Op == api.OpSub || e.Op == api.OpMul) && longs:
		n, why := value.Sum(map[api.Op]byte{api.OpAdd: '+', api.OpSub: '-', api.OpMul: '*'}[e.Op], v.N, w.N)
		if why != api.OK {
			return api.Value{}, why
		}
		return long(n), api.OK
	case e.Op == api.OpIn && beings:
		above, _ := entity.Above(a.l, api.Uid{Type: v.T, Id: v.S})
		return boolean(slices.ContainsFunc(among, func(p api.Value) bool { return slices.Contains(above, api.Uid{Type: p.T, Id: p.S}) })), api.OK
	case e.Op == api.OpContains && v.Kind == api.KindSet:
		return boolean(value.Has(v, w)), api.OK
	case e.Op == api.OpAll && sets:
		return boolean(held == len(w.List)), api.OK
	case e.Op == api.OpAny && sets:
		return boolean(held > 0), api.OK
	}
	return api.Value{}, api.ErrType
}

// matches tells whether a pattern is a text: where in the text the pattern may be, byte by byte.
func matches(s, pattern string) bool {
	at := make([]bool, len(s)+1)
	at[0] = true
	for len(pattern) > 0 {
		next := make([]bool, len(s)+1)
		c, escaped := pattern[0], strings.HasPrefix(pattern, `\*`)
		if escaped {
			c, pattern = '*', pattern[1:]
		}
		for i := range len(s) {
			next[i+1] = at[i] && s[i] == c
		}
		if c == '*' && !escaped {
			there := false
			for i := range next {
				there = there || at[i]
				next[i] = there
			}
		}
		at, pattern = next, pattern[1:]
	}
	return at[len(s)]
}

// anyExpr is a right expression by chance, nested at most so deep; most often its Kids are what its op asks for.
func anyExpr(r *rand.Rand, deep int) api.Expr {
	return exprOf(r, deep, oneOf(r, []string{"bool", "long", "text", "being", "set", "record"}))
}

// leafOf is a leaf that comes to a kind, or asks for an attribute that does.
func leafOf(r *rand.Rand, kind string) api.Expr {
	variable := func(s string) api.Expr { return api.Expr{Op: api.OpVar, S: s} }
	attr := func(of api.Expr, s string) api.Expr {
		return api.Expr{Op: api.OpAttr, S: s, Kids: []api.Expr{of}}
	}
	p, c, d := variable("principal"), variable("context"), variable("resource")
	leaves := map[string][]api.Expr{
		"bool":   {node(api.OpBool), {Op: api.OpBool, N: 1}, attr(c, "far"), attr(attr(p, "r"), "x y")},
		"long":   {{Op: api.OpLong, N: 1}, {Op: api.OpLong, N: 2}, {Op: api.OpLong}, attr(c, "most"), attr(d, "least"), attr(p, "age"), attr(attr(p, "boss"), "age")},
		"text":   {{Op: api.OpString, S: "x"}, {Op: api.OpString, S: "a*"}, {Op: api.OpString}, attr(c, "ip")},
		"being":  {p, variable("action"), d, {Op: api.OpEntity, T: "Group", S: "g"}, {Op: api.OpEntity, T: "Dir", S: "none"}, attr(c, "who"), attr(p, "boss"), attr(d, "owner")},
		"set":    {node(api.OpSet), attr(c, "s"), attr(p, "tags"), attr(attr(p, "boss"), "in_"), node(api.OpSet, p, d)},
		"record": {node(api.OpRecord), c, attr(p, "r"), {Op: api.OpRecord, Names: []string{"b", "a"}, Kids: []api.Expr{p, c}}},
	}
	return oneOf(r, leaves[kind])
}

// exprOf is an expression that comes to a kind, if nothing goes wrong; now and then to another one.
func exprOf(r *rand.Rand, deep int, kind string) api.Expr {
	if r.Intn(20) == 0 {
		kind = oneOf(r, []string{"bool", "long", "text", "being", "set", "record"})
	}
	if deep <= 1 || r.Intn(5) == 0 {
		return leafOf(r, kind)
	}
	kid := func(kind string) api.Expr { return exprOf(r, deep-1, kind) }
	some := func() api.Expr { return anyExpr(r, deep-1) }
	if r.Intn(6) == 0 {
		return node(api.OpIf, kid("bool"), kid(kind), kid(kind))
	}
	switch kind {
	case "bool":
		return boolOf(r, kid, some)
	case "long":
		if r.Intn(4) == 0 {
			return node(api.OpNeg, kid("long"))
		}
		return node(oneOf(r, []api.Op{api.OpAdd, api.OpSub, api.OpMul}), kid("long"), kid("long"))
	case "set":
		e := node(api.OpSet)
		for range r.Intn(5) {
			e.Kids = append(e.Kids, oneOf(r, []func() api.Expr{some, func() api.Expr { return kid("long") }, func() api.Expr { return kid("being") }})())
		}
		return e
	case "record":
		return api.Expr{Op: api.OpRecord, Names: oneOf(r, [][]string{{"b", "a"}, {"far", "age"}, {"x y", "n"}}), Kids: []api.Expr{some(), some()}}
	}
	return api.Expr{Op: api.OpAttr, S: oneOf(r, []string{"a", "b", "boss", "owner", "ip", "far"}), Kids: []api.Expr{kid(oneOf(r, []string{"being", "record"}))}}
}

// boolOf is an expression that comes to a bool.
func boolOf(r *rand.Rand, kid func(string) api.Expr, some func() api.Expr) api.Expr {
	switch r.Intn(10) {
	case 0:
		return node(api.OpNot, kid("bool"))
	case 1, 2:
		return node(oneOf(r, []api.Op{api.OpAnd, api.OpOr}), kid("bool"), kid("bool"))
	case 3:
		return node(oneOf(r, []api.Op{api.OpEqual, api.OpUnlike}), some(), some())
	case 4:
		return node(oneOf(r, []api.Op{api.OpLess, api.OpMost, api.OpMore, api.OpLeast}), kid("long"), kid("long"))
	case 5:
		return node(api.OpIn, kid("being"), kid(oneOf(r, []string{"being", "set"})))
	case 6:
		return node(api.OpContains, kid("set"), some())
	case 7:
		return node(oneOf(r, []api.Op{api.OpAll, api.OpAny}), kid("set"), kid("set"))
	case 8:
		return api.Expr{Op: api.OpHas, S: oneOf(r, []string{"age", "far", "a", "x y"}), Kids: []api.Expr{kid(oneOf(r, []string{"being", "record"}))}}
	}
	return oneOf(r, []api.Expr{{Op: api.OpIs, T: "User", Kids: []api.Expr{kid("being")}}, {Op: api.OpLike, S: `*0*`, Kids: []api.Expr{kid("text")}}, {Op: api.OpLike, S: `a\*`, Kids: []api.Expr{kid("text")}}})
}

// Promise 12.2, and words: expressions by chance, against the words.
func TestEvalByChance(t *testing.T) {
	r := rand.New(rand.NewSource(122))
	q, l := view(t), people(t)
	seen, ops := map[api.Errno]int{}, map[api.Op]int{}
	for range 60000 {
		e := anyExpr(r, 1+r.Intn(6))
		if expr.Check(e) != api.OK {
			continue
		}
		want, reason := asked{q, l}.comesTo(e)
		seen[reason]++
		if reason == api.OK {
			ops[e.Op]++
		}
		v, why := eval.Eval(e, q, l)
		if why != reason || !alike(v, want) {
			s, _ := expr.Print(e)
			t.Fatalf("%s comes to %v, error %d; not %v, error %d", s, v, why, want, reason)
		}
		b, why := eval.Holds(e, q, l)
		if reason == api.OK && want.Kind != api.KindBool {
			reason = api.ErrType
		}
		if b != (reason == api.OK && want.B) || why != reason {
			t.Fatalf("%v holds: %t, error %d, not %d", e, b, why, reason)
		}
	}
	for _, why := range []api.Errno{api.OK, api.ErrType, api.ErrMissing, api.ErrUnknown, api.ErrOver} {
		if seen[why] < 500 {
			t.Errorf("error %d comes %d times", why, seen[why])
		}
	}
	for op := api.OpBool; op < api.OpCount; op++ {
		if ops[op] < 30 {
			t.Errorf("op %d comes to a value %d times", op, ops[op])
		}
	}
}

// P1, and promise 12.2: expressions made by hand, whose fields may be anything.
func TestWhateverIsHandedIn(t *testing.T) {
	r := rand.New(rand.NewSource(1))
	q, l := view(t), people(t)
	var odd func(deep int) api.Expr
	odd = func(deep int) api.Expr {
		e := anyExpr(r, min(deep, 2))
		if r.Intn(3) == 0 {
			e.Op = api.Op(r.Intn(int(api.OpCount) + 3))
		}
		if r.Intn(6) == 0 {
			e.N, e.S, e.T = int64(r.Intn(3))-1, oneOf(r, []string{"", "a", "\xff"}), oneOf(r, []string{"", "A", "in"})
		}
		if r.Intn(4) == 0 && deep > 1 {
			e.Kids = append(slices.Clone(e.Kids), odd(deep-1))
		}
		return e
	}
	right := 0
	for range 30000 {
		e := odd(4)
		v, why := eval.Eval(e, q, l)
		if no := expr.Check(e); no != api.OK && (why != no || !zero(v)) {
			t.Fatalf("%v: %v, error %d, not %d", e, v, why, no)
		} else if no == api.OK {
			right++
		}
	}
	if right < 5000 {
		t.Errorf("%d are right", right)
	}
	deep := node(api.OpBool)
	for range 1 << 16 {
		deep = node(api.OpNot, deep)
	}
	if v, why := eval.Eval(deep, q, l); !zero(v) || why != api.ErrDepth {
		t.Errorf("very deep: error %d", why)
	}
}

// Promise 12.1 of Like, words, and examples: stars, strokes, and what stands for itself.
func TestLike(t *testing.T) {
	for _, x := range []struct {
		s, pattern string
		want       bool
	}{
		{"", "", true}, {"a", "", false}, {"", "a", false}, {"a", "a", true}, {"a", "b", false}, {"ab", "a", false}, {"a", "ab", false}, {"", "*", true}, {"abc", "*", true}, {"", "**", true}, {"a", "**", true}, {"a\nb\x00\xff", "*", true},
		{"ab", "a*", true}, {"a", "a*", true}, {"ba", "a*", false}, {"ba", "*a", true}, {"a", "*a", true}, {"ab", "*a", false}, {"abc", "a*c", true}, {"ac", "a*c", true}, {"a", "a*a", false}, {"aa", "a*a", true}, {"aba", "a*ba", true}, {"ab", "ab*b", false}, {"abab", "ab*ab", true}, {"abcabc", "*b*b*", true}, {"abc", "*b*b*", false}, {"xaxbx", "*a*b*", true}, {"xbxax", "*a*b*", false}, {"aXbXc", "a*b*c", true}, {"abc", "***b***", true}, {"ababab", "a*b*a*b", true}, {"mississippi", "m*iss*ip*i", true}, {"mississippi", "m*iss*iss*iss*", false}, {"aab", "*ab", true}, {"aaab", "*aab*", true},
		{"*", `\*`, true}, {"a", `\*`, false}, {"", `\*`, false}, {`\*`, `\*`, false}, {"a*b", `a\*b`, true}, {"axb", `a\*b`, false}, {"ab", `a\*`, false}, {"a*", `a\*`, true}, {"a*b", `a*b`, true}, {"x*y", `*\**`, true}, {"xy", `*\**`, false}, {"**", `\*\*`, true}, {"*", `\**`, true}, {"*abc", `\**`, true}, {"a", `\**`, false},
		{`\`, `\`, true}, {`\\`, `\\`, true}, {`\`, `\\`, false}, {`a\b`, `a\b`, true}, {`\a`, `\a`, true}, {"a", `\a`, false}, {`\*`, `\\*`, true}, {`\x`, `\\*`, false}, {`\`, `\\*`, false}, {`\\`, `\\*`, false}, {`\\*`, `\\\*`, true}, {`\n`, `\n`, true}, {"\n", `\n`, false}, {`\`, `*\`, true}, {`a\`, `*\`, true}, {`"`, `"`, true}, {`\"`, `\"`, true},
		{"é", "é", true}, {"é", "\xc3*", true}, {"é", "*\xa9", true}, {"é", "?", false}, {"a", "?", false}, {"a", ".", false}, {"a", "[a]", false}, {"A", "a", false}, {"\xff", "\xff", true}, {"\x00", "\x00", true}, {"\x00", "", false},
	} {
		if got := eval.Like(x.s, x.pattern); got != x.want || matches(x.s, x.pattern) != x.want {
			t.Errorf("%q like %q: %t", x.s, x.pattern, got)
		}
	}
}

// textsOf are all texts of some bytes that have at most so many.
func textsOf(bytes string, most int) []string {
	all := []string{""}
	for from := 0; most > 0; most-- {
		to := len(all)
		for _, s := range all[from:to] {
			for _, b := range bytes {
				all = append(all, s+string(b))
			}
		}
		from = to
	}
	return all
}

// Promise 12.1 of Like: all short patterns and texts, and longer ones by chance, against the words.
func TestLikeByTheWords(t *testing.T) {
	patterns := textsOf(`a*\`, 5)
	for _, s := range textsOf(`a*\`, 4) {
		for _, pattern := range patterns {
			if got := eval.Like(s, pattern); got != matches(s, pattern) {
				t.Fatalf("%q like %q: %t", s, pattern, got)
			}
		}
	}
	r := rand.New(rand.NewSource(121))
	yes := 0
	for range 50000 {
		var s, pattern strings.Builder
		for range r.Intn(12) {
			c := oneOf(r, []string{"a", "b", "ab", "*", `\`, "é"})
			s.WriteString(c)
			pattern.WriteString(oneOf(r, []string{c, c, "*", "*", "", `\*`, strings.ReplaceAll(c, "*", `\*`)}))
		}
		got := eval.Like(s.String(), pattern.String())
		if got != matches(s.String(), pattern.String()) {
			t.Fatalf("%q like %q: %t", s.String(), pattern.String(), got)
		}
		if got {
			yes++
		}
	}
	if yes < 3000 {
		t.Errorf("%d are like their patterns", yes)
	}
}

// P1: patterns that might be tried in very many ways.
func TestLikeOfLongTexts(t *testing.T) {
	many := strings.Repeat("a", 1<<20)
	for pattern, want := range map[string]bool{strings.Repeat("a*", 1<<19): true, strings.Repeat("*a", 1<<19) + "b": false, strings.Repeat("*", 1<<20): true, strings.Repeat("*aa", 1000) + "*b*": false, "*" + many[1:] + "*": true, "*" + many + "a*": false, strings.Repeat(`\*`, 1<<19): false} {
		if got := eval.Like(many, pattern); got != want {
			t.Errorf("%.20q: %t", pattern, got)
		}
	}
}
