package policy

import (
	"lictor/api"
)

// Body is the one expression that a policy comes to.
func Body(p api.Policy) (api.Expr, api.Errno) {
	if why := Check(p); why != api.OK {
		return api.Expr{}, why
	}
	return copied(body(p)), api.OK
}

// body is the body of a policy whose scopes are right; it shares the memory of the policy's conditions.
func body(p api.Policy) api.Expr {
	parts := []api.Expr{scope(principal, p.Principal), scope(action, p.Action), scope(resource, p.Resource)}
	for _, c := range p.Conds {
		parts = append(parts, cond(c))
	}
	return all(parts...)
}

// all puts parts together from the left: each of them must hold.
func all(parts ...api.Expr) api.Expr {
	whole := parts[0]
	for _, part := range parts[1:] {
		whole = node(api.OpAnd, whole, part)
	}
	return whole
}

// node is an expression of an op and its Kids alone.
func node(op api.Op, kids ...api.Expr) api.Expr {
	return api.Expr{Op: op, Kids: kids}
}

// scope is what a right scope asks of a variable.
func scope(name string, s api.Scope) api.Expr {
	of := api.Expr{Op: api.OpVar, S: name}
	switch s.Kind {
	case api.ScopeEqual:
		return node(api.OpEqual, of, named(name, s))
	case api.ScopeIn:
		return node(api.OpIn, of, named(name, s))
	case api.ScopeIs:
		return api.Expr{Op: api.OpIs, T: s.Type, Kids: []api.Expr{of}}
	}
	return api.Expr{Op: api.OpBool, N: 1}
}

// named is what a right scope names: an entity, or the set of those in which an action is.
func named(name string, s api.Scope) api.Expr {
	var l []api.Expr
	for _, u := range s.Uids {
		l = append(l, api.Expr{Op: api.OpEntity, T: u.Type, S: u.Id})
	}
	if name == action && s.Kind == api.ScopeIn {
		return node(api.OpSet, l...)
	}
	return l[0]
}

// cond is what a condition asks.
func cond(c api.Cond) api.Expr {
	if c.Unless {
		return node(api.OpNot, c.Expr)
	}
	return c.Expr
}

// copied is the same expression in new memory.
func copied(e api.Expr) api.Expr {
	e.Names = append([]string(nil), e.Names...)
	e.Kids = append([]api.Expr(nil), e.Kids...)
	for i := range e.Kids {
		e.Kids[i] = copied(e.Kids[i])
	}
	return e
}
