package auth

import (
	"lictor/api"
	"lictor/entity"
	"lictor/eval"
	"lictor/policy"
)

// outcome is what holds of a policy, when a request is asked.
type outcome int

const (
	idle outcome = iota // it does not hold
	permits
	forbids
	fails // it comes to an error
)

// Decide tells whether policies in a row allow a request, and which of them decided it.
func Decide(l []api.Named, q api.Request, e []api.Entity) (api.Decision, api.Errno) {
	if why := Check(l); why != api.OK {
		return api.Decision{}, why
	}
	if why := eval.Check(q); why != api.OK {
		return api.Decision{}, why
	}
	if why := entity.CheckRow(e); why != api.OK {
		return api.Decision{}, why
	}
	ids := apart(l, func(p api.Policy) outcome { return come(p, q, e) })
	return decided(ids), api.OK
}

// apart are the Ids of a row, in order, by what its policies come to.
func apart(l []api.Named, ask func(api.Policy) outcome) map[outcome][]string {
	ids := map[outcome][]string{}
	for _, n := range l {
		o := ask(n.Policy)
		ids[o] = append(ids[o], n.Id)
	}
	return ids
}

// come is what a right policy comes to of a request and entities that are right.
func come(p api.Policy, q api.Request, e []api.Entity) outcome {
	body, why := policy.Body(p)
	if why != api.OK {
		return fails
	}
	holds, why := eval.Holds(body, q, e)
	switch {
	case why != api.OK:
		return fails
	case !holds:
		return idle
	case p.Permit:
		return permits
	}
	return forbids
}

// decided is what policies decide of which it is told what they come to.
func decided(ids map[outcome][]string) api.Decision {
	d := api.Decision{Errors: ids[fails]}
	switch {
	case len(ids[forbids]) > 0:
		d.Ids = ids[forbids]
	case len(ids[permits]) > 0:
		d.Allow, d.Ids = true, ids[permits]
	}
	return d
}
