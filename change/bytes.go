package change

import (
	"strings"

	"lictor/api"
	"lictor/crc"
)

// maxPacked is how many changes a list's bytes may tell.
const maxPacked = 255

// textsOf are all texts that a change has room for, in the order of its bytes.
func textsOf(c *api.Change) [4]*string {
	return [...]*string{&c.Id, &c.Text, &c.Uid.Type, &c.Uid.Id}
}

// Pack has the bytes of a list of changes.
func Pack(l []api.Change) (string, api.Errno) {
	if why := packable(l); why != api.OK {
		return "", why
	}
	var b strings.Builder
	b.WriteByte(byte(len(l)))
	for _, c := range l {
		b.WriteByte(byte(c.Kind))
		for _, s := range textsOf(&c) {
			b.WriteString(crc.Put32(uint32(len(*s))))
			b.WriteString(*s)
		}
	}
	return b.String(), api.OK
}

// packable tells why a list of changes has no bytes.
func packable(l []api.Change) api.Errno {
	if len(l) > maxPacked {
		return api.ErrMany
	}
	for _, c := range l {
		if !changeRight(c) {
			return api.ErrSyntax
		}
	}
	for _, c := range l {
		for _, s := range textsOf(&c) {
			if len(*s) > api.MaxText {
				return api.ErrLong
			}
		}
	}
	return api.OK
}

// Unpack is the list of changes that has these bytes.
func Unpack(s string) ([]api.Change, api.Errno) {
	r := reader{rest: s}
	l := r.changes()
	// What is read of bytes that are no list's may be anything: its own bytes tell.
	if packed, why := Pack(l); why != api.OK || packed != s {
		return nil, api.ErrForm
	}
	return l, api.OK
}

// reader reads bytes from the left, as many as there are.
type reader struct {
	rest string
}

// take is the next bytes, so many, or all that are left, if these are fewer.
func (r *reader) take(n uint32) string {
	n = min(n, uint32(len(r.rest)))
	s := r.rest[:n]
	r.rest = r.rest[n:]
	return s
}

// number is the next byte, 0 if there is none.
func (r *reader) number() byte {
	s := r.take(1)
	if s == "" {
		return 0
	}
	return s[0]
}

// text is the next text.
func (r *reader) text() string {
	n, _ := crc.Get32(r.take(4))
	return r.take(n)
}

// changes are the next list of changes.
func (r *reader) changes() []api.Change {
	var l []api.Change
	for range r.number() {
		c := api.Change{Kind: api.ChangeKind(r.number())}
		for _, s := range textsOf(&c) {
			*s = r.text()
		}
		l = append(l, c)
	}
	return l
}
