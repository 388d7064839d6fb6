package window

import (
	"strings"

	"lictor/api"
	"lictor/change"
	"lictor/crc"
)

// Pack has the bytes of versions.
func Pack(v api.Versions) (string, api.Errno) {
	if !shaped(v) {
		return "", api.ErrState
	}
	made, why := change.Make(v.States[0])
	if why != api.OK {
		return "", why
	}
	first, why := change.Pack(made)
	if why != api.OK {
		return "", why
	}
	var b strings.Builder
	b.WriteString(crc.Put64(v.First))
	b.WriteString(first)
	b.WriteByte(byte(len(v.Lists)))
	for _, l := range v.Lists {
		s, why := change.Pack(l)
		if why != api.OK {
			return "", why
		}
		b.WriteString(s)
	}
	return b.String(), api.OK
}

// Unpack are the versions that have these bytes.
func Unpack(s string) (api.Versions, api.Errno) {
	v, why := read(s)
	if why != api.OK {
		return api.Versions{}, api.ErrForm
	}
	// There may be other bytes of the same versions, and a first state that is not right has none: those of what was read tell.
	if packed, why := Pack(v); why != api.OK || packed != s {
		return api.Versions{}, api.ErrForm
	}
	return v, api.OK
}

// read are the versions with whose bytes s begins, as far as they may be made.
func read(s string) (api.Versions, api.Errno) {
	number, rest := cut(s, 8)
	first, why := crc.Get64(number)
	if why != api.OK {
		return api.Versions{}, why
	}
	made, rest, why := nextList(rest)
	if why != api.OK {
		return api.Versions{}, why
	}
	lists, why := nextLists(rest)
	if why != api.OK {
		return api.Versions{}, why
	}
	return built(first, made, lists)
}

// built are versions of a number on: the first state is what changes make of nothing, each other one what a list makes of the one ahead of it.
func built(first uint64, made []api.Change, lists [][]api.Change) (api.Versions, api.Errno) {
	// They may be more than a transaction has, and some of them may fit by others behind them.
	s, why, _ := change.Do(api.State{}, made)
	if why != api.OK {
		return api.Versions{}, why
	}
	v := api.Versions{First: first, States: []api.State{s}, Lists: lists}
	for _, l := range lists {
		// Not by Commit, which makes nothing behind the greatest first version, though versions may be kept there.
		if s, why, _ = change.Apply(s, l); why != api.OK {
			return api.Versions{}, why
		}
		v.States = append(v.States, s)
	}
	return v, api.OK
}

// cut cuts so many bytes off, or all, if there are fewer.
func cut(s string, n uint32) (string, string) {
	n = min(n, uint32(len(s)))
	return s[:n], s[n:]
}

// firstByte cuts off the next byte, if there is one.
func firstByte(s string) (byte, string, api.Errno) {
	if s == "" {
		return 0, "", api.ErrForm
	}
	return s[0], s[1:], api.OK
}

// nextLists are as many lists of changes as the next byte tells, if so many may be kept; what is behind them is not looked at.
func nextLists(s string) ([][]api.Change, api.Errno) {
	n, rest, why := firstByte(s)
	if why != api.OK || n >= api.Window {
		return nil, api.ErrForm
	}
	var lists [][]api.Change
	for range n {
		var l []api.Change
		if l, rest, why = nextList(rest); why != api.OK {
			return nil, why
		}
		lists = append(lists, l)
	}
	return lists, api.OK
}

// nextList is the list of changes whose bytes stand next, and what is behind them.
func nextList(s string) ([]api.Change, string, api.Errno) {
	n, rest, why := firstByte(s)
	if why != api.OK {
		return nil, "", why
	}
	for range n {
		rest = pastChange(rest)
	}
	// If the bytes have run out, what there is of them is no list's.
	l, why := change.Unpack(s[:len(s)-len(rest)])
	return l, rest, why
}

// textsOfChange is how many texts stand among a change's bytes.
const textsOfChange = 4

// pastChange is what is behind the bytes of a change: its Kind, and its texts.
func pastChange(s string) string {
	_, s = cut(s, 1)
	for range textsOfChange {
		var size string
		size, s = cut(s, 4)
		n, _ := crc.Get32(size)
		_, s = cut(s, n)
	}
	return s
}
