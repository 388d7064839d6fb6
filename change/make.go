package change

import (
	"lictor/api"
	"lictor/entity"
	"lictor/policy"
	"lictor/schema"
)

// Make are changes that make a state of a state of nothing.
func Make(s api.State) ([]api.Change, api.Errno) {
	if why := Check(s); why != api.OK {
		return nil, why
	}
	var l []api.Change
	if len(s.Schema.Types) > 0 || len(s.Schema.Actions) > 0 {
		l = append(l, api.Change{Kind: api.ChangeSchema, Text: text(s.Schema, schema.Print)})
	}
	for _, e := range s.Entities {
		l = append(l, api.Change{Kind: api.ChangeEntity, Text: text(e, entity.Print)})
	}
	for _, n := range s.Policies {
		l = append(l, api.Change{Kind: api.ChangePolicy, Id: n.Id, Text: text(n.Policy, policy.Print)})
	}
	return l, api.OK
}

// text is that of a thing that may be kept.
func text[T any](thing T, write func(T) (string, api.Errno)) string {
	s, _ := write(thing)
	return s
}
