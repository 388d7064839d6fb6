// Package reading reads from tokens what the texts of policies, of schemas and of entities share: names, entities, lists, expressions.
package reading

import (
	"lictor/api"
	"lictor/token"
	"lictor/value"
)

// Reader reads a text's parts from its tokens, from the left. When what comes is not what may come, it is wrong, stays at that token, and whatever else is read has no meaning.
type Reader struct {
	tokens []api.Token
	end    int
	at     int
	wrong  bool
}

// New is a reader of a text, or token.Cut's error, and its place.
func New(s string) (Reader, api.Errno, int) {
	l, why, place := token.Cut(s)
	if why != api.OK {
		return Reader{}, why, place
	}
	return Reader{tokens: l, end: len(s)}, api.OK, 0
}

// Wrong tells whether something came that may not come.
func (r *Reader) Wrong() bool {
	return r.wrong
}

// Place is where the token begins that comes, or the text's end.
func (r *Reader) Place() int {
	if r.at < len(r.tokens) {
		return r.tokens[r.at].At
	}
	return r.end
}

// Next is the token that comes; its kind is none if none does, or the reader is wrong.
func (r *Reader) Next() api.Token {
	if r.wrong || r.at >= len(r.tokens) {
		return api.Token{}
	}
	return r.tokens[r.at]
}

// Word is the word that comes, if one does.
func (r *Reader) Word() string {
	if t := r.Next(); t.Kind == api.TokenWord {
		return t.Text
	}
	return ""
}

// comes tells whether the word or the sign comes that is spelt so.
func (r *Reader) comes(spelt string) bool {
	t := r.Next()
	word := 'a' <= spelt[0] && spelt[0] <= 'z'
	return t.Text == spelt && t.Kind != api.TokenString && (t.Kind == api.TokenWord) == word
}

// Took goes on behind the word or the sign that is spelt so, if it comes.
func (r *Reader) Took(spelt string) bool {
	if !r.comes(spelt) {
		return false
	}
	r.at++
	return true
}

// Must goes on behind what is spelt so: nothing else may come.
func (r *Reader) Must(spelt string) {
	if !r.Took(spelt) {
		r.wrong = true
	}
}

// Close tells that nothing more may come.
func (r *Reader) Close() {
	if r.at < len(r.tokens) {
		r.wrong = true
	}
}

// Name reads a name.
func (r *Reader) Name() string {
	s := r.Word()
	if !value.Name(s) {
		r.wrong = true
		return ""
	}
	r.at++
	return s
}

// Text reads a string.
func (r *Reader) Text() string {
	t := r.Next()
	if t.Kind != api.TokenString {
		r.wrong = true
		return ""
	}
	r.at++
	return t.Text
}

// Label reads a name or a string.
func (r *Reader) Label() string {
	if r.Next().Kind == api.TokenString {
		return r.Text()
	}
	return r.Name()
}

// TypeName reads names with :: between.
func (r *Reader) TypeName() string {
	s := r.Name()
	for r.Took("::") {
		s += "::" + r.Name()
	}
	return s
}

// Uid reads an entity: a type's name, :: and a string.
func (r *Reader) Uid() api.Uid {
	kind := r.Name()
	r.Must("::")
	for r.Word() != "" {
		kind += "::" + r.Name()
		r.Must("::")
	}
	return api.Uid{Type: kind, Id: r.Text()}
}

// Some reads parts with commas between, one at least, and what closes them.
func (r *Reader) Some(closing string, part func()) {
	part()
	for r.Took(",") {
		part()
	}
	r.Must(closing)
}

// Any reads parts with commas between, or none, and what closes them.
func (r *Reader) Any(closing string, part func()) {
	if !r.Took(closing) {
		r.Some(closing, part)
	}
}
