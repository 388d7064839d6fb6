package eval

import (
	"slices"

	"lictor/api"
	"lictor/entity"
	"lictor/value"
)

// operator is what an op does.
type operator func(r *run, e api.Expr) api.Value

// operators has what each op does.
func operators() map[api.Op]operator {
	return map[api.Op]operator{
		api.OpBool: (*run).leaf, api.OpLong: (*run).leaf, api.OpString: (*run).leaf, api.OpEntity: (*run).leaf,
		api.OpVar: (*run).variable,
		api.OpSet: (*run).set, api.OpRecord: (*run).record,
		api.OpAttr: (*run).attr, api.OpHas: (*run).has, api.OpIs: (*run).is, api.OpLike: (*run).like,
		api.OpNot: (*run).not, api.OpNeg: (*run).negative,
		api.OpIf: (*run).choice, api.OpAnd: (*run).logic, api.OpOr: (*run).logic,
		api.OpEqual: (*run).equal, api.OpUnlike: (*run).equal,
		api.OpLess: (*run).order, api.OpMost: (*run).order, api.OpMore: (*run).order, api.OpLeast: (*run).order,
		api.OpIn:  (*run).in,
		api.OpAdd: (*run).sum, api.OpSub: (*run).sum, api.OpMul: (*run).sum,
		api.OpContains: (*run).contains, api.OpAll: (*run).all, api.OpAny: (*run).some,
	}
}

func boolean(b bool) api.Value {
	return api.Value{Kind: api.KindBool, B: b}
}

func long(n int64) api.Value {
	return api.Value{Kind: api.KindLong, N: n}
}

func being(u api.Uid) api.Value {
	return api.Value{Kind: api.KindEntity, T: u.Type, S: u.Id}
}

// of is v, which must be of a kind.
func of(kind api.Kind, v api.Value) api.Value {
	if v.Kind != kind {
		fail(api.ErrType)
	}
	return v
}

// uid is that of the entity that v must be.
func uid(v api.Value) api.Uid {
	v = of(api.KindEntity, v)
	return api.Uid{Type: v.T, Id: v.S}
}

func (r *run) leaf(e api.Expr) api.Value {
	switch e.Op {
	case api.OpBool:
		return boolean(e.N == 1)
	case api.OpString:
		return api.Value{Kind: api.KindString, S: e.S}
	case api.OpEntity:
		return being(api.Uid{Type: e.T, Id: e.S})
	}
	return long(e.N)
}

func (r *run) variable(e api.Expr) api.Value {
	switch e.S {
	case "principal":
		return being(r.request.Principal)
	case "action":
		return being(r.request.Action)
	case "resource":
		return being(r.request.Resource)
	}
	return r.request.Context
}

// set makes what value.Set would refuse for being too deep, or too much.
func (r *run) set(e api.Expr) api.Value {
	parts := r.kids(e)
	slices.SortFunc(parts, value.Compare)
	parts = slices.CompactFunc(parts, func(a, b api.Value) bool { return value.Compare(a, b) == 0 })
	return api.Value{Kind: api.KindSet, List: parts}
}

// record makes what value.Record would refuse for being too deep, or too much.
func (r *run) record(e api.Expr) api.Value {
	parts := map[string]api.Value{}
	for i, part := range r.kids(e) {
		parts[e.Names[i]] = part
	}
	v := api.Value{Kind: api.KindRecord, Names: slices.Sorted(slices.Values(e.Names))}
	for _, name := range v.Names {
		v.List = append(v.List, parts[name])
	}
	return v
}

func (r *run) attr(e api.Expr) api.Value {
	return must(r.part(e))
}

func (r *run) has(e api.Expr) api.Value {
	_, why := r.part(e)
	if why == api.ErrType {
		fail(why)
	}
	return boolean(why == api.OK)
}

// part is the attribute that e is of, or asks of; why there is none, if its Kid came to a value.
func (r *run) part(e api.Expr) (api.Value, api.Errno) {
	owner := r.value(e.Kids[0])
	if owner.Kind == api.KindEntity {
		// Not by entity.Find, which would check the whole row each time.
		i := slices.IndexFunc(r.entities, func(one api.Entity) bool { return one.Uid == uid(owner) })
		if i < 0 {
			return api.Value{}, api.ErrUnknown
		}
		owner = r.entities[i].Attrs
	}
	return value.Get(owner, e.S)
}

func (r *run) is(e api.Expr) api.Value {
	return boolean(uid(r.value(e.Kids[0])).Type == e.T)
}

func (r *run) like(e api.Expr) api.Value {
	return boolean(Like(of(api.KindString, r.value(e.Kids[0])).S, e.S))
}

// test is what a bool comes to, which an expression must be.
func (r *run) test(e api.Expr) bool {
	return of(api.KindBool, r.value(e)).B
}

func (r *run) not(e api.Expr) api.Value {
	return boolean(!r.test(e.Kids[0]))
}

func (r *run) negative(e api.Expr) api.Value {
	return long(must(value.Sum('-', 0, of(api.KindLong, r.value(e.Kids[0])).N)))
}

func (r *run) choice(e api.Expr) api.Value {
	if r.test(e.Kids[0]) {
		return r.value(e.Kids[1])
	}
	return r.value(e.Kids[2])
}

// logic is of an and, or of an or: a first one that is false, or that is true, tells.
func (r *run) logic(e api.Expr) api.Value {
	tells := e.Op == api.OpOr
	if r.test(e.Kids[0]) == tells {
		return boolean(tells)
	}
	return boolean(r.test(e.Kids[1]))
}

func (r *run) equal(e api.Expr) api.Value {
	kids := r.kids(e)
	alike := value.Compare(kids[0], kids[1]) == 0
	return boolean(alike == (e.Op == api.OpEqual))
}

// longs are those that both Kids must come to.
func (r *run) longs(e api.Expr) (int64, int64) {
	kids := r.kids(e)
	return of(api.KindLong, kids[0]).N, of(api.KindLong, kids[1]).N
}

func (r *run) order(e api.Expr) api.Value {
	a, b := r.longs(e)
	switch e.Op {
	case api.OpLess:
		return boolean(a < b)
	case api.OpMost:
		return boolean(a <= b)
	case api.OpMore:
		return boolean(a > b)
	}
	return boolean(a >= b)
}

func (r *run) sum(e api.Expr) api.Value {
	a, b := r.longs(e)
	sign := byte('*')
	switch e.Op {
	case api.OpAdd:
		sign = '+'
	case api.OpSub:
		sign = '-'
	}
	return long(must(value.Sum(sign, a, b)))
}

func (r *run) in(e api.Expr) api.Value {
	kids := r.kids(e)
	below, among := uid(kids[0]), kids[1:]
	if kids[1].Kind == api.KindSet {
		among = kids[1].List
	}
	var asked []api.Uid
	for _, v := range among {
		asked = append(asked, uid(v))
	}
	above := must(entity.Above(r.entities, below))
	return boolean(slices.ContainsFunc(asked, func(u api.Uid) bool { return slices.Contains(above, u) }))
}

func (r *run) contains(e api.Expr) api.Value {
	kids := r.kids(e)
	return boolean(value.Has(of(api.KindSet, kids[0]), kids[1]))
}

// sets are those that both Kids must come to.
func (r *run) sets(e api.Expr) (api.Value, api.Value) {
	kids := r.kids(e)
	return of(api.KindSet, kids[0]), of(api.KindSet, kids[1])
}

func (r *run) all(e api.Expr) api.Value {
	a, b := r.sets(e)
	return boolean(!slices.ContainsFunc(b.List, func(v api.Value) bool { return !value.Has(a, v) }))
}

func (r *run) some(e api.Expr) api.Value {
	a, b := r.sets(e)
	return boolean(slices.ContainsFunc(b.List, func(v api.Value) bool { return value.Has(a, v) }))
}
