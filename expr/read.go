package expr

import (
	"lictor/api"
	"lictor/token"
	"lictor/value"
)

// Parse reads an expression from a text.
func Parse(s string) (api.Expr, api.Errno, int) {
	l, why, place := token.Cut(s)
	if why != api.OK {
		return api.Expr{}, why, place
	}
	e, n, why, place := Read(l, len(s))
	if why != api.OK {
		return api.Expr{}, why, place
	}
	if n < len(l) {
		return api.Expr{}, api.ErrSyntax, l[n].At
	}
	return e, api.OK, 0
}

// Read reads the longest expression with which tokens begin, and how many of them it has.
func Read(l []api.Token, end int) (api.Expr, int, api.Errno, int) {
	// A text has no more tokens; more that are made by hand might be nested deeper than there is room for.
	r := reader{tokens: l[:min(len(l), api.MaxText)]}
	e := r.expr()
	if r.wrong {
		return api.Expr{}, 0, api.ErrSyntax, place(l, r.at, end)
	}
	if why := Check(e); why != api.OK {
		return api.Expr{}, 0, why, place(l, 0, end)
	}
	return e, r.at, api.OK, 0
}

// place is where the token begins that is at i, or the end.
func place(l []api.Token, i, end int) int {
	if i < len(l) {
		return l[i].At
	}
	return end
}

// reader reads an expression's parts from tokens, from the left. When what comes is not what may come, it is wrong, stays at that token, and whatever else is read has no meaning.
type reader struct {
	tokens []api.Token
	at     int
	wrong  bool
}

// next is the token that comes; its kind is none if none does, or the reader is wrong.
func (r *reader) next() api.Token {
	if r.wrong || r.at >= len(r.tokens) {
		return api.Token{}
	}
	return r.tokens[r.at]
}

// took goes on behind the word or the sign that is spelt so, if it comes.
func (r *reader) took(spelt string) bool {
	t := r.next()
	kind := api.TokenSign
	if 'a' <= spelt[0] && spelt[0] <= 'z' {
		kind = api.TokenWord
	}
	if t.Kind != kind || t.Text != spelt {
		return false
	}
	r.at++
	return true
}

// must goes on behind what is spelt so: nothing else may come.
func (r *reader) must(spelt string) {
	if !r.took(spelt) {
		r.wrong = true
	}
}

// name reads a name.
func (r *reader) name() string {
	t := r.next()
	if t.Kind != api.TokenWord || !value.Name(t.Text) {
		r.wrong = true
		return ""
	}
	r.at++
	return t.Text
}

// text reads a string.
func (r *reader) text() string {
	t := r.next()
	if t.Kind != api.TokenString {
		r.wrong = true
		return ""
	}
	r.at++
	return t.Text
}

// label reads a name or a string.
func (r *reader) label() string {
	if r.next().Kind == api.TokenString {
		return r.text()
	}
	return r.name()
}

// expr reads any expression.
func (r *reader) expr() api.Expr {
	if !r.took("if") {
		return r.or()
	}
	test := r.expr()
	r.must("then")
	yes := r.expr()
	r.must("else")
	return node(api.OpIf, test, yes, r.expr())
}

// node is an expression of an op and its Kids alone.
func node(op api.Op, kids ...api.Expr) api.Expr {
	return api.Expr{Op: op, Kids: kids}
}

func (r *reader) or() api.Expr {
	return r.row(r.and, "||")
}

func (r *reader) and() api.Expr {
	return r.row(r.relation, "&&")
}

func (r *reader) sum() api.Expr {
	return r.row(r.product, "+", "-")
}

func (r *reader) product() api.Expr {
	return r.row(r.unary, "*")
}

// row reads parts with any of the signs between, and puts them together from the left.
func (r *reader) row(part func() api.Expr, signs ...string) api.Expr {
	left := part()
	for op := r.oneOf(signs...); op != api.OpNone; op = r.oneOf(signs...) {
		left = node(op, left, part())
	}
	return left
}

// oneOf goes on behind the first of the spellings that comes, and has its op; OpNone if none comes.
func (r *reader) oneOf(spellings ...string) api.Op {
	for _, spelt := range spellings {
		if r.took(spelt) {
			return opSpelt(spelt)
		}
	}
	return api.OpNone
}

// relation reads a sum, and what is asked of it, if anything is.
func (r *reader) relation() api.Expr {
	left := r.sum()
	if op := r.oneOf("==", "!=", "<", "<=", ">", ">=", "in"); op != api.OpNone {
		return node(op, left, r.sum())
	}
	kids := []api.Expr{left}
	switch {
	case r.took("has"):
		return api.Expr{Op: api.OpHas, S: r.label(), Kids: kids}
	case r.took("is"):
		return api.Expr{Op: api.OpIs, T: r.typeName(), Kids: kids}
	case r.took("like"):
		return api.Expr{Op: api.OpLike, S: r.text(), Kids: kids}
	}
	return left
}

// typeName reads names with :: between.
func (r *reader) typeName() string {
	s := r.name()
	for r.took("::") {
		s += "::" + r.name()
	}
	return s
}

func (r *reader) unary() api.Expr {
	switch {
	case r.took("!"):
		return node(api.OpNot, r.unary())
	case r.took("-"):
		return node(api.OpNeg, r.unary())
	}
	return r.member()
}

// member reads a primary, and whatever is asked of it by a full stop or by brackets.
func (r *reader) member() api.Expr {
	e := r.primary()
	for {
		switch {
		case r.took("."):
			e = r.dotted(e)
		case r.took("["):
			e = attr(e, r.text())
			r.must("]")
		default:
			return e
		}
	}
}

// attr is an attribute of e.
func attr(e api.Expr, name string) api.Expr {
	return api.Expr{Op: api.OpAttr, S: name, Kids: []api.Expr{e}}
}

// dotted reads what stands behind e and a full stop: an attribute's name, or a call.
func (r *reader) dotted(e api.Expr) api.Expr {
	name := r.name()
	// No name is a sign or a word that stands between two: an op that is spelt so is called.
	op := opSpelt(name)
	if op == api.OpNone || !r.took("(") {
		return attr(e, name)
	}
	part := r.expr()
	r.must(")")
	return node(op, e, part)
}

func (r *reader) primary() api.Expr {
	t := r.next()
	switch {
	case t.Kind == api.TokenLong:
		r.at++
		return api.Expr{Op: api.OpLong, N: t.N}
	case t.Kind == api.TokenString:
		r.at++
		return api.Expr{Op: api.OpString, S: t.Text}
	case t.Kind == api.TokenWord:
		return r.word(t.Text)
	case r.took("("):
		e := r.expr()
		r.must(")")
		return e
	case r.took("["):
		return r.set()
	case r.took("{"):
		return r.record()
	}
	r.wrong = true
	return api.Expr{}
}

// word reads a primary that begins with a word.
func (r *reader) word(s string) api.Expr {
	switch {
	case r.took("true"):
		return api.Expr{Op: api.OpBool, N: 1}
	case r.took("false"):
		return api.Expr{Op: api.OpBool}
	case variable(s):
		r.at++
		return api.Expr{Op: api.OpVar, S: s}
	}
	return r.entity()
}

// entity reads a type's name, :: and a string.
func (r *reader) entity() api.Expr {
	s := r.name()
	r.must("::")
	for r.next().Kind == api.TokenWord {
		s += "::" + r.name()
		r.must("::")
	}
	return api.Expr{Op: api.OpEntity, T: s, S: r.text()}
}

// set reads a set's parts, and what closes it.
func (r *reader) set() api.Expr {
	e := api.Expr{Op: api.OpSet}
	r.list("]", func() { e.Kids = append(e.Kids, r.expr()) })
	return e
}

// record reads a record's parts, and what closes it.
func (r *reader) record() api.Expr {
	e := api.Expr{Op: api.OpRecord}
	r.list("}", func() {
		e.Names = append(e.Names, r.label())
		r.must(":")
		e.Kids = append(e.Kids, r.expr())
	})
	return e
}

// list reads parts with commas between, or none, and what closes them.
func (r *reader) list(closing string, part func()) {
	if r.took(closing) {
		return
	}
	part()
	for r.took(",") {
		part()
	}
	r.must(closing)
}
