package policy

import (
	"lictor/api"
	"lictor/expr"
)

// Print writes a policy.
func Print(p api.Policy) (string, api.Errno) {
	if why := Check(p); why != api.OK {
		return "", why
	}
	s := "forbid"
	if p.Permit {
		s = "permit"
	}
	s += " (" + scopeText(principal, p.Principal) + ", " + scopeText(action, p.Action) + ", " + scopeText(resource, p.Resource) + ")"
	for _, c := range p.Conds {
		s += condText(c)
	}
	return s + ";", api.OK
}

// scopeText writes a right scope.
func scopeText(name string, s api.Scope) string {
	switch s.Kind {
	case api.ScopeEqual:
		return name + " == " + exprText(named(name, s))
	case api.ScopeIn:
		return name + " in " + exprText(named(name, s))
	case api.ScopeIs:
		return name + " is " + s.Type
	}
	return name
}

// condText writes a right condition, behind a space.
func condText(c api.Cond) string {
	word := "when"
	if c.Unless {
		word = "unless"
	}
	return " " + word + " { " + exprText(c.Expr) + " }"
}

// exprText writes a right expression.
func exprText(e api.Expr) string {
	s, _ := expr.Print(e)
	return s
}
