package wire

import "lictor/api"

// port is what a walk goes through, part by part: one that writes takes what it is shown, and hands it back; one that reads hands out what stands next.
type port interface {
	small(n int) int // a number that has one byte
	number(n uint64) uint64
	flag(b bool) bool
	text(s string) string
	change(c api.Change) api.Change // the last part of what has one
}

// walkAsk goes through the parts that a request of its kind has.
func walkAsk(p port, a api.Ask) api.Ask {
	a.Kind = api.AskKind(p.small(int(a.Kind)))
	switch a.Kind {
	case api.AskChange:
		a.Tx = p.number(a.Tx)
		a.Change = p.change(a.Change)
	case api.AskCommit, api.AskAbort:
		a.Tx = p.number(a.Tx)
	case api.AskQuery:
		a = walkQuery(p, a)
	case api.AskAt:
		a.Version = p.number(a.Version)
		a = walkQuery(p, a)
	}
	return a
}

// walkQuery goes through what is asked of a version.
func walkQuery(p port, a api.Ask) api.Ask {
	a.Principal = walkUid(p, a.Principal)
	a.Action = walkUid(p, a.Action)
	a.Resource = walkUid(p, a.Resource)
	a.Context = p.text(a.Context)
	return a
}

func walkUid(p port, u api.Uid) api.Uid {
	u.Type = p.text(u.Type)
	u.Id = p.text(u.Id)
	return u
}

// walkReply goes through the parts of a reply.
func walkReply(p port, r api.Reply) api.Reply {
	r.Why = api.Errno(p.small(int(r.Why)))
	r.N = p.number(r.N)
	r.Place = p.small(r.Place)
	r.Decision.Allow = p.flag(r.Decision.Allow)
	r.Decision.Ids = walkTexts(p, r.Decision.Ids)
	r.Decision.Errors = walkTexts(p, r.Decision.Errors)
	return r
}

// walkTexts goes through a list of texts.
func walkTexts(p port, l []string) []string {
	n := p.small(len(l))
	if _, reads := p.(*reader); reads {
		// Just now it is known how many there are to be filled in.
		l = make([]string, n)
	}
	var walked []string
	for _, s := range l {
		walked = append(walked, p.text(s))
	}
	return walked
}
