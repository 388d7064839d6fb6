package entity

import (
	"lictor/api"
	"lictor/expr"
	"lictor/value"
)

// Value is what a constant says.
func Value(e api.Expr) (api.Value, api.Errno) {
	if why := expr.Check(e); why != api.OK {
		return api.Value{}, why
	}
	if !constant(e) {
		return api.Value{}, api.ErrType
	}
	return said(e)
}

// constant tells whether an expression is one.
func constant(e api.Expr) bool {
	switch e.Op {
	case api.OpBool, api.OpLong, api.OpString, api.OpEntity:
		return true
	case api.OpNeg, api.OpSub:
		return all(e.Kids, longConstant)
	case api.OpSet, api.OpRecord:
		return all(e.Kids, constant)
	}
	return false
}

// longConstant tells whether an expression is a constant, and a long.
func longConstant(e api.Expr) bool {
	return constant(e) && (e.Op == api.OpLong || e.Op == api.OpNeg || e.Op == api.OpSub)
}

// all tells whether something holds of all of a list.
func all(l []api.Expr, holds func(api.Expr) bool) bool {
	for _, e := range l {
		if !holds(e) {
			return false
		}
	}
	return true
}

// said is what a constant that is right says.
func said(e api.Expr) (api.Value, api.Errno) {
	var parts []api.Value
	for _, k := range e.Kids {
		part, why := said(k)
		if why != api.OK {
			return api.Value{}, why
		}
		parts = append(parts, part)
	}
	switch e.Op {
	case api.OpBool:
		return api.Value{Kind: api.KindBool, B: e.N == 1}, api.OK
	case api.OpString:
		return api.Value{Kind: api.KindString, S: e.S}, api.OK
	case api.OpEntity:
		return api.Value{Kind: api.KindEntity, T: e.T, S: e.S}, api.OK
	case api.OpNeg:
		return difference(0, parts[0].N)
	case api.OpSub:
		return difference(parts[0].N, parts[1].N)
	case api.OpSet:
		return value.Set(parts)
	case api.OpRecord:
		return value.Record(e.Names, parts)
	}
	return long(e.N), api.OK
}

// difference is a - b.
func difference(a, b int64) (api.Value, api.Errno) {
	n, why := value.Sum('-', a, b)
	if why != api.OK {
		return api.Value{}, why
	}
	return long(n), api.OK
}

func long(n int64) api.Value {
	return api.Value{Kind: api.KindLong, N: n}
}
