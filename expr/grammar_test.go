package expr_test

import (
	"math/rand"
	"slices"
	"strings"
	"testing"

	"lictor/api"
	"lictor/expr"
	"lictor/token"
	"lictor/value"
)

// grammar is the chapter's one, a rule a line: what it is of, and what it is put together of. NAME, LONG and STRING are tokens; what no line begins with is a token that is spelt so.
const grammar = `
	expr if expr then expr else expr
	expr or
	or and
	or or || and
	and relation
	and and && relation
	relation sum
	relation sum == sum
	relation sum != sum
	relation sum < sum
	relation sum <= sum
	relation sum > sum
	relation sum >= sum
	relation sum in sum
	relation sum has label
	relation sum is type
	relation sum like STRING
	sum product
	sum sum + product
	sum sum - product
	product unary
	product product * unary
	unary ! unary
	unary - unary
	unary member
	member primary
	member member . NAME
	member member [ STRING ]
	member member . contains ( expr )
	member member . containsAll ( expr )
	member member . containsAny ( expr )
	primary true
	primary false
	primary LONG
	primary STRING
	primary principal
	primary action
	primary resource
	primary context
	primary type :: STRING
	primary ( expr )
	primary [ ]
	primary [ exprs ]
	primary { }
	primary { parts }
	type NAME
	type type :: NAME
	label NAME
	label STRING
	exprs expr
	exprs exprs , expr
	parts label : expr
	parts parts , label : expr`

// rules are the grammar's, each as its words, by what they are of.
func rules() map[string][][]string {
	out := map[string][][]string{}
	for _, line := range strings.Split(strings.TrimSpace(grammar), "\n") {
		words := strings.Fields(line)
		out[words[0]] = append(out[words[0]], words)
	}
	return out
}

// earley goes through tokens by the grammar: how many of them may stand at the beginning of an expression, and whether they are one then.
type earley struct {
	rules map[string][][]string
}

func spelt(t api.Token, s string) bool {
	switch s {
	case "NAME":
		return t.Kind == api.TokenWord && value.Name(t.Text)
	case "LONG":
		return t.Kind == api.TokenLong
	case "STRING":
		return t.Kind == api.TokenString
	}
	return (t.Kind == api.TokenWord || t.Kind == api.TokenSign) && t.Text == s
}

// state is a place within a rule, and the token where it began.
type state struct {
	head string
	rule int
	dot  int
	from int
}

// next is the word behind a state's dot, or none at the rule's end.
func (g earley) next(s state) string {
	words := g.rules[s.head][s.rule][1:]
	if s.dot == len(words) {
		return ""
	}
	return words[s.dot]
}

// begun has the states in which something begins at a token.
func (g earley) begun(head string, from int) []state {
	var l []state
	for i := range g.rules[head] {
		l = append(l, state{head, i, 0, from})
	}
	return l
}

// filled has all states that follow from those of a place.
func (g earley) filled(rows [][]state, l []state) []state {
	at := len(rows)
	seen := map[state]bool{}
	var out []state
	for len(l) > 0 {
		s := l[0]
		l = l[1:]
		if seen[s] {
			continue
		}
		seen[s] = true
		out = append(out, s)
		word := g.next(s)
		switch {
		case word == "":
			for _, waits := range rows[s.from] {
				if g.next(waits) == s.head {
					waits.dot++
					l = append(l, waits)
				}
			}
		case g.rules[word] != nil:
			l = append(l, g.begun(word, at)...)
		}
	}
	return out
}

// reach is how many tokens may stand at an expression's beginning, and whether they are an expression then.
func (g earley) reach(tokens []api.Token) (int, bool) {
	rows := [][]state{}
	row := g.filled(rows, g.begun("expr", 0))
	for i := 0; ; i++ {
		var l []state
		for _, s := range row {
			if i < len(tokens) && g.next(s) != "" && g.rules[g.next(s)] == nil && spelt(tokens[i], g.next(s)) {
				s.dot++
				l = append(l, s)
			}
		}
		rows = append(rows, row)
		if len(l) == 0 {
			whole := slices.ContainsFunc(row, func(s state) bool { return s.head == "expr" && s.from == 0 && g.next(s) == "" })
			return i, whole
		}
		row = g.filled(rows, l)
	}
}

// readAsTheGrammar holds what Read answers of tokens against the grammar.
func readAsTheGrammar(t *testing.T, g earley, l []api.Token, end int) bool {
	t.Helper()
	n, whole := g.reach(l)
	place := end
	if n < len(l) {
		place = l[n].At
	}
	e, took, why, there := expr.Read(l, end)
	switch {
	case !whole:
		if !zero(e) || took != 0 || why != api.ErrSyntax || there != place {
			t.Errorf("%v: %d tokens, error %d at %d, not at %d", l, took, why, there, place)
		}
	case why != api.OK:
		// It is an expression that is not right.
		if !zero(e) || took != 0 || there != l[0].At {
			t.Errorf("%v: %d tokens, error %d at %d", l, took, why, there)
		}
	case took != n || there != 0 || expr.Check(e) != api.OK:
		t.Errorf("%v: %d tokens at %d, not %d", l, took, there, n)
	}
	return why == api.OK
}

// words are tokens of all kinds, those that texts of expressions have.
func words(t *testing.T) []api.Token {
	t.Helper()
	l, why, _ := token.Cut(`a contains containsAll containsAny B permit entity if then else in has is like true false principal action resource context
		== != < <= > >= && || :: : ; , . + - * ! ( ) [ ] { } 0 7 "" "a" "x y" "*"`)
	if why != api.OK {
		t.Fatal("error", why)
	}
	return l
}

// bent is a list of tokens with one of them left out, put in, changed, there twice, or all behind it left out.
func bent(r *rand.Rand, l, pool []api.Token) []api.Token {
	l = slices.Clone(l)
	if len(l) == 0 {
		return l
	}
	i := r.Intn(len(l))
	switch r.Intn(5) {
	case 0:
		return slices.Delete(l, i, i+1)
	case 1:
		return slices.Insert(l, i, oneOf(r, pool))
	case 2:
		l[i] = oneOf(r, pool)
	case 3:
		return slices.Insert(l, i, l[r.Intn(len(l))])
	case 4:
		return l[:i]
	}
	return l
}

// Promise 8.2, and words: how far tokens are an expression, and the first one that is not what may come, against the grammar.
func TestReadAsTheGrammar(t *testing.T) {
	g := earley{rules()}
	pool := words(t)
	r := rand.New(rand.NewSource(82))
	right, wrong := 0, 0
	for range 6000 {
		s := sparse(r, anyExpr(r, 1+r.Intn(4)), 0)
		l, why, _ := token.Cut(s)
		if why != api.OK || len(l) > 60 {
			continue
		}
		for range r.Intn(4) {
			l = bent(r, l, pool)
		}
		for i := range l {
			l[i].At = 3*i + r.Intn(3)
		}
		if readAsTheGrammar(t, g, l, 1000+r.Intn(9)) {
			right++
		} else {
			wrong++
		}
	}
	for range 6000 {
		l := make([]api.Token, r.Intn(6))
		for i := range l {
			l[i] = oneOf(r, pool)
			l[i].At = i*2 - 5
		}
		readAsTheGrammar(t, g, l, -1)
	}
	if right < 1000 || wrong < 1000 {
		t.Errorf("%d are right, %d are not", right, wrong)
	}
}

// Promise 8.2, and words: all rows of up to three tokens.
func TestShortRowsAsTheGrammar(t *testing.T) {
	g := earley{rules()}
	pool := words(t)
	for i := range pool {
		pool[i].At = 0
	}
	readAsTheGrammar(t, g, nil, 7)
	for _, a := range pool {
		readAsTheGrammar(t, g, []api.Token{a}, 7)
		for _, b := range pool {
			b.At = 1
			l := []api.Token{a, b}
			readAsTheGrammar(t, g, l, 7)
			if n, whole := g.reach(l); n < 2 && !whole {
				// No third one is asked.
				continue
			}
			for _, c := range pool {
				c.At = 2
				readAsTheGrammar(t, g, append(l, c), 7)
			}
		}
	}
}
