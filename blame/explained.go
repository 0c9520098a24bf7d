package blame

import (
	"iter"
	"strconv"
	"strings"

	"reprise/api"
	"reprise/infer"
)

// explained is a program that is explained.
type explained struct {
	program
	holes  [][]int              // those of its slice that are found so far
	errors map[string]api.Errno // with which it is typed, by the places at which it is filled
}

// explain returns an ill-typed program with the holes of its slice.
func explain(p api.Program) (*explained, api.Errno) {
	x := &explained{program: program{p}, errors: map[string]api.Errno{}}
	switch e := x.errorOf(); e {
	case api.OK:
		return nil, api.ErrState
	case api.ErrType:
		x.slice()
		return x, api.OK
	default:
		return nil, e
	}
}

// slice finds the holes of the slice.
func (x *explained) slice() {
	for n := range x.outside() {
		if n.fixed {
			continue
		}
		if more := extended(x.holes, n.place); x.errorOf(more...) == api.ErrType {
			x.holes = more
		}
	}
}

// cured reports whether the place of a node is a cure.
func (x *explained) cured(n node) bool { return n.open() && x.errorOf(n.place) == api.OK }

// outside yields the nodes that are in none of the holes found by the time that their turn comes.
func (x *explained) outside() iter.Seq[node] {
	return func(yield func(node) bool) {
	nodes:
		for n := range x.nodes() {
			for _, hole := range x.holes {
				if contains(hole, n.place) {
					continue nodes
				}
			}
			if !yield(n) {
				return
			}
		}
	}
}

// errorOf returns the error of typing the program that is filled at some places.
func (x *explained) errorOf(places ...[]int) api.Errno {
	key := text(places)
	e, known := x.errors[key]
	if !known {
		_, _, e = infer.Infer(x.filled(places))
		x.errors[key] = e
	}
	return e
}

// text returns places as a string.
func text(places [][]int) string {
	var b strings.Builder
	for _, place := range places {
		for _, i := range place {
			b.WriteString(strconv.Itoa(i))
			b.WriteByte('.')
		}
		b.WriteByte(' ')
	}
	return b.String()
}
