package lexer

import (
	"strings"

	"reprise/api"
)

// symbols are all symbols. A longer one comes before those that it begins with, so that it is the one that is meant.
var symbols = [...]string{"==", "->", "(", ")", "{", "}", "[", "]", ",", ";", ":", ".", "=", "<", ">", "|", "@", "+", "-", "*"}

// reader goes through a text from the left. Each of its methods returns what it has read, nothing if what it reads does not begin here.
type reader struct {
	text string
	at   int
}

// take reads a number of bytes.
func (r *reader) take(n int) string {
	part := r.text[r.at : r.at+n]
	r.at += n
	return part
}

// word reads a word, whether it is well formed or not.
func (r *reader) word() string {
	end := r.at
	for end < len(r.text) && kindOf(rune(r.text[end])) != other {
		end++
	}
	return r.take(end - r.at)
}

// symbol reads a symbol.
func (r *reader) symbol() string {
	for _, s := range symbols {
		if strings.HasPrefix(r.text[r.at:], s) {
			return r.take(len(s))
		}
	}
	return ""
}

// space reads as much space as there is.
func (r *reader) space() string {
	end := r.at
	comment := false
	for end < len(r.text) {
		switch c := r.text[end]; {
		case c == '\n':
			comment = false
		case c == '#':
			comment = true
		case !comment && c != ' ' && c != '\t':
			return r.take(end - r.at)
		}
		end++
	}
	return r.take(end - r.at)
}

// source is a text that is divided into tokens.
type source struct {
	reader
	begin int // the byte at which the token that was looked for last begins, or would have to
}

// tokens yields the tokens up to the end of the text, or up to a malformed byte, which is where the source then begins.
func (s *source) tokens(yield func(api.Token) bool) {
	skip, parts := s.space, []func() string{s.word, s.symbol}
all:
	for {
		skip()
		s.begin = s.at
		t, ok := tokenOf(firstOf(parts...))
		t.At = s.begin
		switch {
		case !ok:
			break all
		case !yield(t):
			break all
		}
	}
}

// firstOf returns what the first of the given ways of reading that reads anything has read.
func firstOf(ways ...func() string) string {
	for _, read := range ways {
		if part := read(); part != "" {
			return part
		}
	}
	return ""
}

// tokenOf returns the token, with the At 0, that a text is as a whole, and whether it is one.
func tokenOf(text string) (t api.Token, ok bool) {
	if n, ok := integer(text); ok {
		return api.Token{Kind: api.TkInt, N: n}, true
	}
	t.S = text
	switch {
	case Keyword(text):
		t.Kind = api.TkWord
	case isName(text, small):
		t.Kind = api.TkLower
	case isName(text, large):
		t.Kind = api.TkUpper
	case isSymbol(text):
		t.Kind = api.TkSymbol
	default:
		return api.Token{}, false
	}
	return t, true
}

// textOf returns the bytes of a token, and whether it is well formed: its bytes must be this token and no other one.
func textOf(t api.Token) (text string, ok bool) {
	text = t.S
	if t.Kind == api.TkInt {
		text = Digits(t.N)
	}
	read, ok := tokenOf(text)
	read.At = t.At
	return text, ok && read == t
}
