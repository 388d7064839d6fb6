package token

import (
	"strings"
	"unicode/utf8"

	"lictor/api"
)

// starred is a stroke and a star: as it is written, and what it stands for.
const starred = `\*`

// escapes has the byte that a stroke and a letter stand for.
func escapes() map[byte]byte {
	return map[byte]byte{'"': '"', '\\': '\\', 'n': '\n', 't': '\t', '0': 0}
}

// text reads a string.
func text(s string) piece {
	var b strings.Builder
	meant := escapes()
	for at := 1; at < len(s) && s[at] != '\n'; at++ {
		switch {
		case quote(s[at]):
			return ended(b.String(), at+1)
		case s[at] != '\\':
			b.WriteByte(s[at])
		case strings.HasPrefix(s[at:], starred):
			b.WriteString(starred)
			at++
		default:
			at++
			if at == len(s) {
				return piece{why: api.ErrSyntax}
			}
			c, there := meant[s[at]]
			if !there {
				return piece{why: api.ErrSyntax}
			}
			b.WriteByte(c)
		}
	}
	return piece{why: api.ErrSyntax}
}

// ended is the piece of a string that ends, and would stand for s.
func ended(s string, size int) piece {
	if why := checkText(s); why != api.OK {
		return piece{why: why}
	}
	return piece{token: api.Token{Kind: api.TokenString, Text: s}, size: size}
}

// checkText tells why no string may stand for s.
func checkText(s string) api.Errno {
	switch {
	case !utf8.ValidString(s):
		return api.ErrUtf
	case len(s) > api.MaxString:
		return api.ErrLong
	}
	return api.OK
}

// Quote writes the string that stands for s.
func Quote(s string) (string, api.Errno) {
	if why := checkText(s); why != api.OK {
		return "", why
	}
	var b strings.Builder
	letterOf := letters()
	b.WriteByte('"')
	for i := range len(s) {
		letter, escaped := letterOf[s[i]]
		switch {
		case !escaped, strings.HasPrefix(s[i:], starred):
			// A stroke ahead of a star is written as it is, and so is the star then.
			b.WriteByte(s[i])
		default:
			b.WriteByte('\\')
			b.WriteByte(letter)
		}
	}
	b.WriteByte('"')
	return b.String(), api.OK
}

// letters has the letter that stands behind a stroke for a byte.
func letters() map[byte]byte {
	out := map[byte]byte{}
	for letter, b := range escapes() {
		out[b] = letter
	}
	return out
}
