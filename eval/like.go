package eval

import (
	"strings"
)

// Like tells whether a pattern is s.
func Like(s, pattern string) bool {
	texts := between(pattern)
	last := len(texts) - 1
	if last == 0 {
		return s == texts[0]
	}
	s, there := strings.CutPrefix(s, texts[0])
	for _, text := range texts[1:last] {
		if !there {
			return false
		}
		// The first place is as good as any: behind it there is but more.
		_, s, there = strings.Cut(s, text)
	}
	return there && strings.HasSuffix(s, texts[last])
}

// between are the texts between a pattern's stars, ahead of the first one, and behind the last one.
func between(pattern string) []string {
	var texts []string
	var b strings.Builder
	for i := 0; i < len(pattern); i++ {
		switch {
		case strings.HasPrefix(pattern[i:], `\*`):
			b.WriteByte('*')
			i++
		case pattern[i] == '*':
			texts = append(texts, b.String())
			b.Reset()
		default:
			b.WriteByte(pattern[i])
		}
	}
	return append(texts, b.String())
}
