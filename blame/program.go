package blame

import (
	"iter"

	"reprise/api"
	"reprise/trees"
)

// program is a program without errors of layer 4, whose nodes are looked at.
type program struct{ api.Program }

// bodies returns the bodies of the definitions, and the main expression.
func (p program) bodies() (l []node) {
	for i, d := range p.Defs {
		l = append(l, node{d.Body, []int{i}, trees.IsValue(d.Body)})
	}
	return append(l, node{p.Main, []int{len(p.Defs)}, false})
}

// nodes yields all nodes, in order.
func (p program) nodes() iter.Seq[node] {
	return func(yield func(node) bool) {
		var visit func(l []node) bool
		visit = func(l []node) bool {
			for _, n := range l {
				if !yield(n) || !visit(n.parts()) {
					return false
				}
			}
			return true
		}
		visit(p.bodies())
	}
}

// at returns the node at a place, or leaves the call if there is none.
func (p program) at(place []int) (n node) {
	need(len(place) > 0, api.ErrNone)
	l := p.bodies()
	for _, i := range place {
		need(i >= 0 && i < len(l), api.ErrNone)
		n = l[i]
		l = n.parts()
	}
	return n
}
