package change

import (
	"lictor/api"
	"lictor/auth"
	"lictor/entity"
	"lictor/policy"
	"lictor/schema"
)

// work is a state to which changes are done.
type work struct {
	api.State
}

// steps has how changes of each kind are done.
func (w *work) steps() map[api.ChangeKind]func(api.Change) api.Errno {
	return map[api.ChangeKind]func(api.Change) api.Errno{
		api.ChangeSchema: w.setSchema,
		api.ChangePolicy: w.putPolicy,
		api.ChangeForget: w.forget,
		api.ChangeEntity: w.putEntity,
		api.ChangeDrop:   w.drop,
	}
}

func (w *work) setSchema(c api.Change) api.Errno {
	x, why, _ := schema.Parse(c.Text)
	if why != api.OK {
		return why
	}
	if !schemaKept(x) {
		return api.ErrLong
	}
	w.Schema = x
	return api.OK
}

func (w *work) putPolicy(c api.Change) api.Errno {
	p, why, _ := policy.Parse(c.Text)
	if why != api.OK {
		return why
	}
	if !policyKept(p) {
		return api.ErrLong
	}
	l, why := auth.Put(w.Policies, api.Named{Id: c.Id, Policy: p})
	if why != api.OK {
		return why
	}
	w.Policies = l
	return api.OK
}

func (w *work) forget(c api.Change) api.Errno {
	l, why := auth.Drop(w.Policies, c.Id)
	if why != api.OK {
		return why
	}
	w.Policies = l
	return api.OK
}

func (w *work) putEntity(c api.Change) api.Errno {
	e, why, _ := entity.Parse(c.Text)
	if why != api.OK {
		return why
	}
	if !entityKept(e) {
		return api.ErrLong
	}
	l, why := entity.Put(w.Entities, e)
	if why != api.OK {
		return why
	}
	w.Entities = l
	return api.OK
}

func (w *work) drop(c api.Change) api.Errno {
	l, why := entity.Drop(w.Entities, c.Uid)
	if why != api.OK {
		return why
	}
	w.Entities = l
	return api.OK
}
