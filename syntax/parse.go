package syntax

import (
	"slices"

	"reprise/api"
	"reprise/lexer"
)

// endOfText is the kind of a token that stands behind all others.
const endOfText api.TokenKind = api.TkSymbol + 1

// reader goes through tokens, the last of which is the end of the text.
type reader struct {
	tokens []api.Token
	next   int
}

// peek returns the next token.
func (r *reader) peek() api.Token {
	return r.tokens[r.next]
}

// fail leaves the parser at the next token.
func (r *reader) fail() {
	panic(api.ErrText)
}

// skip reads a symbol or a keyword if it is the next token, and reports whether it was.
func (r *reader) skip(s string) bool {
	if r.peek().S != s {
		return false
	}
	r.next++
	return true
}

// need reads a symbol or a keyword.
func (r *reader) need(s string) {
	if !r.skip(s) {
		r.fail()
	}
}

// token reads a token of a kind.
func (r *reader) token(kind api.TokenKind) api.Token {
	t := r.peek()
	if t.Kind != kind {
		r.fail()
	}
	r.next++
	return t
}

// lower reads a variable name.
func (r *reader) lower() string { return r.token(api.TkLower).S }

// upper reads an upper-case name.
func (r *reader) upper() string { return r.token(api.TkUpper).S }

// lowers reads as many variable names as there are.
func (r *reader) lowers() (l []string) {
	for r.peek().Kind == api.TkLower {
		name := r.lower()
		l = append(l, name)
	}
	return l
}

// parser reads trees.
type parser struct {
	reader
	depth    int  // the rules expr, atom and type that are begun and not ended
	declared bool // whether types are those of declarations
}

// parse reads a whole text by a rule.
func parse[T any](text string, rule func(*parser) T, check func(T) api.Errno) (tree T, at int, e api.Errno) {
	tokens, at, e := lexer.Lex(text)
	if e != api.OK {
		return tree, at, e
	}
	tokens = append(tokens, api.Token{Kind: endOfText, At: len(text)})
	read, at, e := readAll(&parser{reader: reader{tokens: tokens}}, rule)
	if e != api.OK {
		return tree, at, e
	}
	if e := check(read); e != api.OK {
		return tree, 0, e
	}
	return read, 0, api.OK
}

// readAll reads all tokens by a rule.
func readAll[T any](p *parser, rule func(*parser) T) (tree T, at int, e api.Errno) {
	defer func() {
		if stop := recover(); stop != nil {
			at, e = p.peek().At, api.ErrText
		}
	}()
	read := rule(p)
	p.token(endOfText)
	return read, 0, api.OK
}

// nested reads a rule that may contain itself. The limit keeps the rules of a text from containing each other without end.
func nested[T any](p *parser, rule func() T) T {
	p.depth++
	if p.depth > 2*api.MaxDepth {
		p.fail()
	}
	tree := rule()
	p.depth--
	return tree
}

// separated reads a list up to where it ends. It is empty only where one of the given tokens is next.
func separated[T any](p *parser, separator string, read func() T, ends ...string) (l []T) {
list:
	for first := true; ; first = false {
		switch {
		case first && slices.Contains(ends, p.peek().S):
			break list
		case !first && !p.skip(separator):
			break list
		}
		x := read()
		l = append(l, x)
	}
	return l
}

// inBraces reads a list in braces.
func inBraces[T any](p *parser, read func() T) []T {
	p.need("{")
	l := separated(p, ";", read, "}")
	p.need("}")
	return l
}
