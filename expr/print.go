package expr

import (
	"strconv"
	"strings"

	"lictor/api"
	"lictor/token"
	"lictor/value"
)

// Print writes an expression.
func Print(e api.Expr) (string, api.Errno) {
	if why := Check(e); why != api.OK {
		return "", why
	}
	var p printer
	p.expr(e)
	return p.String(), api.OK
}

// printer writes the parts of a right expression.
type printer struct {
	strings.Builder
}

func (p *printer) expr(e api.Expr) {
	write := writer(e.Op)
	write(p, e)
}

// writer is how expressions of an op are written.
func writer(op api.Op) func(p *printer, e api.Expr) {
	switch op {
	case api.OpBool, api.OpLong, api.OpString, api.OpEntity, api.OpVar:
		return (*printer).leaf
	case api.OpSet:
		return (*printer).set
	case api.OpRecord:
		return (*printer).record
	case api.OpAttr:
		return (*printer).attr
	case api.OpHas, api.OpIs, api.OpLike:
		return (*printer).question
	case api.OpNot, api.OpNeg:
		return (*printer).unary
	case api.OpIf:
		return (*printer).choice
	case api.OpContains, api.OpAll, api.OpAny:
		return (*printer).call
	}
	return (*printer).pair
}

// put writes texts, one behind the other.
func (p *printer) put(texts ...string) {
	for _, s := range texts {
		p.WriteString(s)
	}
}

func (p *printer) leaf(e api.Expr) {
	switch e.Op {
	case api.OpBool:
		p.put(strconv.FormatBool(e.N == 1))
	case api.OpLong:
		p.put(strconv.FormatInt(e.N, 10))
	case api.OpString:
		p.put(quoted(e.S))
	case api.OpEntity:
		p.put(e.T, "::", quoted(e.S))
	case api.OpVar:
		p.put(e.S)
	}
}

// quoted is the string that stands for what is right in an expression.
func quoted(s string) string {
	text, _ := token.Quote(s)
	return text
}

// label is an attribute's name, as a string if it is no name.
func label(s string) string {
	if value.Name(s) {
		return s
	}
	return quoted(s)
}

func (p *printer) set(e api.Expr) {
	p.put("[")
	p.list(e, func(int) {})
	p.put("]")
}

func (p *printer) record(e api.Expr) {
	p.put("{")
	p.list(e, func(i int) { p.put(label(e.Names[i]), ": ") })
	p.put("}")
}

// list writes an expression's Kids with commas between, ahead of each what belongs there.
func (p *printer) list(e api.Expr, ahead func(i int)) {
	for i, k := range e.Kids {
		if i > 0 {
			p.put(", ")
		}
		ahead(i)
		p.expr(k)
	}
}

func (p *printer) attr(e api.Expr) {
	p.owner(e.Kids[0])
	if value.Name(e.S) {
		p.put(".", e.S)
		return
	}
	p.put("[", quoted(e.S), "]")
}

// owner writes what stands ahead of a full stop or of brackets.
func (p *printer) owner(e api.Expr) {
	if e.Op != api.OpNot && e.Op != api.OpNeg {
		p.expr(e)
		return
	}
	// Else the sign would be of all that stands behind it.
	p.put("(")
	p.expr(e)
	p.put(")")
}

func (p *printer) question(e api.Expr) {
	p.put("(")
	p.expr(e.Kids[0])
	switch e.Op {
	case api.OpHas:
		p.put(" has ", label(e.S))
	case api.OpIs:
		p.put(" is ", e.T)
	case api.OpLike:
		p.put(" like ", quoted(e.S))
	}
	p.put(")")
}

func (p *printer) unary(e api.Expr) {
	if e.Op == api.OpNot {
		p.put("!")
	} else {
		p.put("-")
	}
	p.expr(e.Kids[0])
}

func (p *printer) choice(e api.Expr) {
	p.put("(if ")
	p.expr(e.Kids[0])
	p.put(" then ")
	p.expr(e.Kids[1])
	p.put(" else ")
	p.expr(e.Kids[2])
	p.put(")")
}

func (p *printer) call(e api.Expr) {
	p.owner(e.Kids[0])
	p.put(".", spelling(e.Op), "(")
	p.expr(e.Kids[1])
	p.put(")")
}

func (p *printer) pair(e api.Expr) {
	p.put("(")
	p.expr(e.Kids[0])
	p.put(" ", spelling(e.Op), " ")
	p.expr(e.Kids[1])
	p.put(")")
}
