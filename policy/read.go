package policy

import (
	"lictor/api"
	"lictor/reading"
)

// Parse reads a policy from a text.
func Parse(s string) (api.Policy, api.Errno, int) {
	l, why, place := reading.New(s)
	if why != api.OK {
		return api.Policy{}, why, place
	}
	r := reader{Reader: l}
	p := r.policy()
	r.Close()
	if r.Wrong() {
		return api.Policy{}, api.ErrSyntax, r.Place()
	}
	if why := r.check(p); why != api.OK {
		return api.Policy{}, why, 0
	}
	return p, api.OK, 0
}

// reader reads a policy's parts; why tells of the first expression that is not right, as such a one is not there when it is read.
type reader struct {
	reading.Reader
	why api.Errno
}

// check tells why the policy that was read is not right.
func (r *reader) check(p api.Policy) api.Errno {
	if why := checkFrame(p); why != api.OK {
		return why
	}
	if r.why != api.OK {
		return r.why
	}
	return Check(p)
}

func (r *reader) policy() api.Policy {
	p := api.Policy{Permit: r.Took("permit")}
	if !p.Permit {
		r.Must("forbid")
	}
	r.Must("(")
	p.Principal = r.scope(principal)
	r.Must(",")
	p.Action = r.action()
	r.Must(",")
	p.Resource = r.scope(resource)
	r.Must(")")
	for r.Word() == "when" || r.Word() == "unless" {
		p.Conds = append(p.Conds, r.cond())
	}
	r.Must(";")
	return p
}

// scope reads a principal's or a resource's scope.
func (r *reader) scope(name string) api.Scope {
	r.Must(name)
	switch {
	case r.Took("=="):
		return api.Scope{Kind: api.ScopeEqual, Uids: []api.Uid{r.Uid()}}
	case r.Took("in"):
		return api.Scope{Kind: api.ScopeIn, Uids: []api.Uid{r.Uid()}}
	case r.Took("is"):
		return api.Scope{Kind: api.ScopeIs, Type: r.TypeName()}
	}
	return api.Scope{}
}

// action reads an action's scope.
func (r *reader) action() api.Scope {
	r.Must(action)
	switch {
	case r.Took("=="):
		return api.Scope{Kind: api.ScopeEqual, Uids: []api.Uid{r.Uid()}}
	case r.Took("in"):
		s := api.Scope{Kind: api.ScopeIn}
		r.Must("[")
		r.Some("]", func() { s.Uids = append(s.Uids, r.Uid()) })
		return s
	}
	return api.Scope{}
}

// cond reads a condition.
func (r *reader) cond() api.Cond {
	c := api.Cond{Unless: r.Took("unless")}
	if !c.Unless {
		r.Must("when")
	}
	r.Must("{")
	e, why := r.Expr()
	if r.why == api.OK {
		r.why = why
	}
	c.Expr = e
	r.Must("}")
	return c
}
