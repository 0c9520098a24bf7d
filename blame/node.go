package blame

import (
	"iter"
	"slices"

	"reprise/api"
	"reprise/trees"
)

// node is a node of a program, with its place, and whether this is fixed.
type node struct {
	api.Expr
	place []int
	fixed bool
}

// open reports whether the place of a node is open.
func (n node) open() bool { return !n.fixed }

// parts returns the parts of a node.
func (n node) parts() (l []node) {
	for part := range trees.ExprParts(n.Expr) {
		i := len(l)
		fixed := n.Kind == api.Let && i == 0 && trees.IsValue(part) || n.Kind == api.Con && n.fixed
		l = append(l, node{part, extended(n.place, i), fixed})
	}
	return l
}

// places returns the places of those nodes that pass a test.
func places(nodes iter.Seq[node], test func(node) bool) (l [][]int) {
	for n := range nodes {
		if test(n) {
			l = append(l, n.place)
		}
	}
	return l
}

// contains reports whether a place contains another one.
func contains(place, other []int) bool {
	return len(place) <= len(other) && slices.Equal(place, other[:len(place)])
}

// extended returns a list with more elements, as new memory.
func extended[T any](l []T, more ...T) []T {
	out := make([]T, len(l), len(l)+len(more))
	copy(out, l)
	return append(out, more...)
}
