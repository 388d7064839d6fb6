package reading

import (
	"slices"
	"sort"

	"lictor/api"
	"lictor/expr"
)

// Record reads an expression that begins with the sign of a record; if there is none, or it is not right, the reader goes no further, and tells expr.Read's error, and its place.
func (r *Reader) Record() (api.Expr, api.Errno, int) {
	if !r.comes("{") {
		r.wrong = true
		return api.Expr{}, api.ErrSyntax, r.Place()
	}
	e, n, why, place := expr.Read(r.tokens[r.at:], r.end)
	r.at += n
	return e, why, place
}

// Expr reads an expression; if it is not right, why it is not, and the reader goes on behind it all the same, as what follows may not be what may come.
func (r *Reader) Expr() (api.Expr, api.Errno) {
	if r.wrong {
		return api.Expr{}, api.OK
	}
	rest := r.tokens[r.at:]
	e, n, why, place := expr.Read(rest, r.end)
	if why == api.OK {
		r.at += n
		return e, api.OK
	}
	r.at += begun(rest)
	// Read tells the place of the token that may not come, or else that of the expression's first one.
	if place == r.Place() {
		r.wrong = true
		return api.Expr{}, api.OK
	}
	return api.Expr{}, why
}

// begun is with how many of the tokens an expression may begin: Read does not tell it of one that is not right.
func begun(l []api.Token) int {
	return sort.Search(len(l), func(i int) bool { return !begins(l[:i+1]) })
}

// begins tells whether an expression may begin with tokens.
func begins(l []api.Token) bool {
	// Behind a whole expression an or may come, but no end behind that; ahead of its end an or may not come. So Read goes just as far as either.
	const nowhere = -1
	or := api.Token{Kind: api.TokenSign, Text: "||", At: nowhere}
	_, _, why, place := expr.Read(slices.Concat(l, []api.Token{or}), nowhere)
	return why == api.ErrSyntax && place == nowhere
}
