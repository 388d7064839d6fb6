package wire

import (
	"math"
	"strings"

	"lictor/api"
	"lictor/change"
	"lictor/crc"
)

// writer is a port that writes.
type writer struct {
	strings.Builder
	wrong bool // something has no bytes
}

func (w *writer) small(n int) int {
	if n < 0 || n > math.MaxUint8 {
		w.wrong = true
	}
	w.WriteByte(byte(n))
	return n
}

func (w *writer) number(n uint64) uint64 {
	w.WriteString(crc.Put64(n))
	return n
}

func (w *writer) flag(b bool) bool {
	n := 0
	if b {
		n = 1
	}
	w.small(n)
	return b
}

func (w *writer) text(s string) string {
	if len(s) > api.MaxText {
		w.wrong = true
	}
	w.WriteString(crc.Put32(uint32(len(s))))
	w.WriteString(s)
	return s
}

func (w *writer) change(c api.Change) api.Change {
	s, why := change.Pack([]api.Change{c})
	if why != api.OK {
		w.wrong = true
	}
	w.WriteString(s)
	return c
}

// reader is a port that reads bytes from the left.
type reader struct {
	rest  string
	wrong bool // something is none, or the bytes have run out
}

// done tells whether all bytes are read, and none of them was wrong.
func (r *reader) done() bool {
	return !r.wrong && r.rest == ""
}

// take is the next bytes, so many; nothing, if there are fewer.
func (r *reader) take(n int) string {
	if n > len(r.rest) {
		r.wrong = true
		return ""
	}
	s := r.rest[:n]
	r.rest = r.rest[n:]
	return s
}

func (r *reader) small(int) int {
	s := r.take(1)
	if s == "" {
		return 0
	}
	return int(s[0])
}

func (r *reader) number(uint64) uint64 {
	n, _ := crc.Get64(r.take(8))
	return n
}

func (r *reader) flag(bool) bool {
	n := r.small(0)
	if n > 1 {
		r.wrong = true
	}
	return n == 1
}

func (r *reader) text(string) string {
	n, _ := crc.Get32(r.take(4))
	if n > api.MaxText {
		r.wrong = true
		return ""
	}
	return r.take(int(n))
}

// change is the one change of the list that all bytes that are left are.
func (r *reader) change(api.Change) api.Change {
	l, why := change.Unpack(r.take(len(r.rest)))
	if why != api.OK || len(l) != 1 {
		r.wrong = true
		return api.Change{}
	}
	return l[0]
}
