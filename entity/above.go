package entity

import (
	"container/heap"
	"maps"
	"slices"

	"lictor/api"
	"lictor/value"
)

// uids are Uids as a heap, the least one first.
type uids []api.Uid

func (h uids) Len() int           { return len(h) }
func (h uids) Less(i, j int) bool { return compare(h[i], h[j]) < 0 }
func (h uids) Swap(i, j int)      { h[i], h[j] = h[j], h[i] }

// Push puts a Uid behind the others.
func (h *uids) Push(u any) {
	*h = append(*h, u.(api.Uid))
}

// Pop takes the last Uid.
func (h *uids) Pop() any {
	last := len(*h) - 1
	u := (*h)[last]
	*h = (*h)[:last]
	return u
}

// Above are all who are above somebody, in order.
func Above(l []api.Entity, u api.Uid) ([]api.Uid, api.Errno) {
	if why := CheckRow(l); why != api.OK {
		return nil, why
	}
	if why := value.CheckUid(u); why != api.OK {
		return nil, why
	}
	met := map[api.Uid]struct{}{}
	waiting := &uids{u}
	for waiting.Len() > 0 {
		next := heap.Pop(waiting).(api.Uid)
		if _, known := met[next]; known {
			continue
		}
		met[next] = struct{}{}
		if i, there := place(l, next); there {
			for _, parent := range l[i].Parents {
				heap.Push(waiting, parent)
			}
		}
	}
	return slices.SortedFunc(maps.Keys(met), compare), api.OK
}

// round tells whether somebody of a row is above themselves: whoever has none right above but those that are let go is let go, and round about nobody ever is.
func round(l []api.Entity) bool {
	held := map[api.Uid]struct{}{}
	for _, e := range l {
		held[e.Uid] = struct{}{}
	}
	under := func(u api.Uid) bool {
		_, holds := held[u]
		return holds
	}
	for before := len(held) + 1; len(held) < before; {
		before = len(held)
		for _, e := range l {
			if !slices.ContainsFunc(e.Parents, under) {
				delete(held, e.Uid)
			}
		}
	}
	return len(held) > 0
}
