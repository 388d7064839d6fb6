package service

import (
	"math"
	"slices"

	"lictor/api"
	"lictor/entity"
	"lictor/expr"
	"lictor/sector"
	"lictor/store"
	"lictor/window"
	"lictor/wire"
)

// work is a right service, in memory of its own, that answers a request.
type work struct {
	api.Server
}

// answers has how requests of each kind are answered.
func answers() map[api.AskKind]func(*work, api.Ask) api.Reply {
	return map[api.AskKind]func(*work, api.Ask) api.Reply{
		api.AskBegin:      (*work).begin,
		api.AskChange:     (*work).change,
		api.AskCommit:     (*work).commit,
		api.AskAbort:      (*work).abort,
		api.AskQuery:      (*work).query,
		api.AskAt:         (*work).at,
		api.AskCheckpoint: (*work).checkpoint,
		api.AskRecover:    (*work).recovery,
	}
}

// told is the reply that tells an error, or OK, and nothing else.
func told(why api.Errno) api.Reply {
	return api.Reply{Why: why}
}

// answer is the reply to the bytes of a request.
func (w *work) answer(request string) api.Reply {
	a, why := wire.ReadAsk(request)
	if why != api.OK {
		return told(why)
	}
	if !w.Up && a.Kind != api.AskRecover {
		return told(api.ErrPower)
	}
	return answers()[a.Kind](w, a)
}

func (w *work) begin(api.Ask) api.Reply {
	if len(w.Open) == api.MaxOpen {
		return told(api.ErrMany)
	}
	if w.Last == math.MaxUint64 {
		return told(api.ErrOver)
	}
	w.Last++
	w.Open = append(w.Open, api.Tx{N: w.Last})
	return api.Reply{N: w.Last}
}

// find is the place of the transaction of a number among those that are open.
func (w *work) find(n uint64) (int, api.Errno) {
	i := slices.IndexFunc(w.Open, func(t api.Tx) bool { return t.N == n })
	if i < 0 {
		return 0, api.ErrUnknown
	}
	return i, api.OK
}

func (w *work) change(a api.Ask) api.Reply {
	i, why := w.find(a.Tx)
	if why != api.OK {
		return told(why)
	}
	t := &w.Open[i]
	if len(t.List) == api.MaxChanges {
		return told(api.ErrMany)
	}
	t.List = append(t.List, a.Change)
	return api.Reply{}
}

// end has the transaction of a number be open no more, and answers its changes.
func (w *work) end(n uint64) ([]api.Change, api.Errno) {
	i, why := w.find(n)
	if why != api.OK {
		return nil, why
	}
	l := w.Open[i].List
	w.Open = slices.Delete(w.Open, i, i+1)
	return l, api.OK
}

func (w *work) abort(a api.Ask) api.Reply {
	_, why := w.end(a.Tx)
	return told(why)
}

func (w *work) commit(a api.Ask) api.Reply {
	l, why := w.end(a.Tx)
	if why != api.OK {
		return told(why)
	}
	s, n, why, place := store.Commit(w.Store, l)
	w.Store = s
	return api.Reply{Why: why, N: n, Place: place}
}

func (w *work) query(a api.Ask) api.Reply {
	n, why := window.Last(w.Store.Versions)
	if why != api.OK {
		return told(why)
	}
	return w.decide(n, a)
}

func (w *work) at(a api.Ask) api.Reply {
	return w.decide(a.Version, a)
}

// decide is the reply to what is asked of version n.
func (w *work) decide(n uint64, a api.Ask) api.Reply {
	context, why := record(a.Context)
	if why != api.OK {
		return told(why)
	}
	q := api.Request{Principal: a.Principal, Action: a.Action, Resource: a.Resource, Context: context}
	d, why := window.Decide(w.Store.Versions, n, q)
	if why != api.OK {
		return told(why)
	}
	return api.Reply{N: n, Decision: d}
}

// record is the one that a text says.
func record(text string) (api.Value, api.Errno) {
	e, why, _ := expr.Parse(text)
	if why != api.OK {
		return api.Value{}, why
	}
	v, why := entity.Value(e)
	if why != api.OK {
		return api.Value{}, why
	}
	if v.Kind != api.KindRecord {
		return api.Value{}, api.ErrType
	}
	return v, api.OK
}

func (w *work) checkpoint(api.Ask) api.Reply {
	s, why := store.Checkpoint(w.Store)
	w.Store = s
	return told(why)
}

func (w *work) recovery(api.Ask) api.Reply {
	d := w.Store.Disk
	if d.Off {
		d, _ = sector.Crash(d, nil)
	}
	s, why := store.Open(d)
	w.Store, w.Up, w.Open = s, why == api.OK, nil
	if why != api.OK {
		return told(why)
	}
	n, _ := window.Last(s.Versions)
	return api.Reply{N: n}
}
