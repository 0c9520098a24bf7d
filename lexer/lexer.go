// Package lexer is layer 1 (shared/doc/01-lexer.md): tokens of source texts, the classes of names, and integers that wrap around.
package lexer

import (
	"strings"

	"reprise/api"
)

// Lex returns the tokens of a source text; with ErrText it returns the index of the first malformed byte.
func Lex(text string) (l []api.Token, at int, e api.Errno) {
	if len(text) > api.MaxText {
		return nil, 0, api.ErrSize
	}
	s := source{reader: reader{text: text}}
	for t := range s.tokens {
		l = append(l, t)
	}
	if s.begin < len(text) {
		return nil, s.begin, api.ErrText
	}
	return l, 0, api.OK
}

// Join returns a source text with the given tokens, with one blank between each and the next one.
func Join(l []api.Token) (string, api.Errno) {
	parts := make([]string, 0, len(l))
	size := 0
	for i, t := range l {
		part, ok := textOf(t)
		if !ok {
			return "", api.ErrArg
		}
		if i > 0 {
			size++
		}
		size += len(part)
		parts = append(parts, part)
	}
	if size > api.MaxText {
		return "", api.ErrSize
	}
	return spaced(parts...), api.OK
}

// spaced joins texts with one blank between each and the next one.
func spaced(parts ...string) string {
	return strings.Join(parts, " ")
}

// Where returns the line and the column of a byte of a text, or of its end.
func Where(text string, at int) (line, column int, e api.Errno) {
	if at < 0 || at > len(text) {
		return 0, 0, api.ErrArg
	}
	before := text[:at]
	return 1 + strings.Count(before, "\n"), at - strings.LastIndexByte(before, '\n'), api.OK
}
