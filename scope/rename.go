package scope

import (
	"iter"
	"maps"

	"reprise/api"
	"reprise/lexer"
)

// setOf returns the set of all names that are yielded.
func setOf[N comparable](names iter.Seq[N]) map[N]bool {
	set := map[N]bool{}
	for x := range names {
		set[x] = true
	}
	return set
}

// namer finds names that are not used.
type namer struct {
	used map[string]bool
	next map[string]int // of stems: with lower numbers, all names are used
}

// newNamer returns a namer that has a set for its own.
func newNamer(used map[string]bool) *namer {
	return &namer{used: used, next: map[string]int{}}
}

// fresh returns a name like base that was not used, and uses it.
func (m *namer) fresh(base string) string {
	stem := stemOf(base)
	text, n := base, m.next[stem]
	for m.used[text] {
		text = numbered(stem, n)
		n++
	}
	m.next[stem] = n
	m.used[text] = true
	return text
}

// stemOf returns a variable name without the digits at its end.
func stemOf(text string) string {
	end := 0
	for i, c := range text {
		if c < '0' || c > '9' {
			end = i + 1
		}
	}
	return text[:end]
}

// numbered returns a name of a stem, cut as the limit asks for, and a number.
func numbered(stem string, n int) string {
	digits := lexer.Digits(n)
	return stem[:min(len(stem), api.MaxName-len(digits))] + digits
}

// number gives canonical names.
func (n *node) number() {
	free := setOf(n.free())
	next := [...]func() string{variables: numbers(variables, "v", free), handlers: numbers(handlers, "h", free)}
	for b := range n.binders() {
		b.now = next[b.space]()
	}
}

// numbers returns a function that returns one after the other of the canonical names of a namespace.
func numbers(s space, stem string, free map[name]bool) func() string {
	n := 0
	return func() string {
		for {
			x := name{s, numbered(stem, n)}
			n++
			if !free[x] {
				return x.text
			}
		}
	}
}

// separate gives names so that no name is bound twice, and none is bound that is free.
func (n *node) separate() {
	inUse := setOf(n.free())
	names := setOf(n.names())
	namers := [...]*namer{variables: newNamer(maps.Clone(names)), handlers: newNamer(names)}
	for b := range n.binders() {
		if inUse[b.name] {
			b.now = namers[b.space].fresh(b.text)
		}
		inUse[b.name] = true
	}
}
