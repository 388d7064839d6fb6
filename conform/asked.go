package conform

import (
	"iter"
	"slices"

	"lictor/api"
)

// asked yields of which types a request's parts are of which a policy may be asked: action by action, principals' types within, resources' types within that.
func asked(x api.Schema, p api.Policy) iter.Seq[api.Env] {
	return func(yield func(api.Env) bool) {
		for _, a := range x.Actions {
			if !ofAction(p.Action, a.Id) {
				continue
			}
			for _, principal := range a.Principals {
				for _, resource := range a.Resources {
					v := api.Env{Principal: principal, Resource: resource, Context: a.Context}
					if ofType(p.Principal, principal) && ofType(p.Resource, resource) && !yield(v) {
						return
					}
				}
			}
		}
	}
}

// ofAction tells whether a scope may hold of an action.
func ofAction(s api.Scope, id string) bool {
	switch s.Kind {
	case api.ScopeEqual, api.ScopeIn:
		return slices.Contains(s.Uids, api.Uid{Type: actionName, Id: id})
	}
	return true
}

// ofType tells whether a scope may hold of entities of a type; who is within whom is not asked.
func ofType(s api.Scope, name string) bool {
	switch s.Kind {
	case api.ScopeEqual:
		return s.Uids[0].Type == name
	case api.ScopeIs:
		return s.Type == name
	}
	return true
}
