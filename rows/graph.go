package rows

import (
	"iter"
	"maps"
	"slices"

	"reprise/api"
)

// node is a type of an equation, in a union-find: it belongs to the class of the node above it, whose topmost node, its root, tells what all of them stand for. Only a class of variables alone has a variable as its root, the least one.
type node struct {
	api.Type
	parts []*node
	up    *node
}

// root returns the root of a node's class, and puts the nodes on the way right below it.
func (n *node) root() *node {
	top := n
	for top.up != nil {
		top = top.up
	}
	for n != top {
		next := n.up
		n.up = top
		n = next
	}
	return top
}

// isAbove reports whether, of two roots, this one has to be the root of both classes together.
func (n *node) isAbove(m *node) bool {
	return m.Kind == api.TVar && (n.Kind != api.TVar || n.N < m.N)
}

// graph is what the variables of equations stand for so far.
type graph struct {
	types map[int]*node
	rows  map[int]*tail
}

// newGraph returns the graph in which the variables of equations stand for themselves.
func newGraph(l []api.Pair) graph {
	g := graph{types: map[int]*node{}, rows: map[int]*tail{}}
	for _, t := range sides(l) {
		for v := range variables(t) {
			if v.ofRow {
				g.rows[v.n] = &tail{}
			} else {
				g.types[v.n] = &node{Type: api.Type{Kind: api.TVar, N: v.n}}
			}
		}
	}
	return g
}

// node returns the node of a type, with nodes for its parts. All occurrences of a variable are one node.
func (g graph) node(t api.Type) *node {
	if t.Kind == api.TVar {
		return g.types[t.N]
	}
	n := &node{Type: t}
	for _, part := range t.L {
		n.parts = append(n.parts, g.node(part))
	}
	return n
}

// step is two nodes that are to stand for the same.
type step struct{ a, b *node }

// solve makes the sides of an equation stand for the same. What follows from a step waits in a list: nodes may lie far deeper within each other than those of a type.
func (g graph) solve(p api.Pair) error {
	todo := []step{{g.node(p.A), g.node(p.B)}}
	for len(todo) > 0 {
		last := len(todo) - 1
		a, b := todo[last].a.root(), todo[last].b.root()
		todo = todo[:last]
		if a == b {
			continue
		}
		if b.isAbove(a) {
			a, b = b, a
		}
		b.up = a
		if b.Kind == api.TVar {
			continue
		}
		if !alike(a.Type, b.Type) || a.Kind == api.TFun && !g.solveRows(a.Row, b.Row) {
			return failed(api.ErrType)
		}
		for i, part := range a.parts {
			todo = append(todo, step{part, b.parts[i]})
		}
	}
	return nil
}

// alike reports whether two types that are no variables match, but for their rows and their parts.
func alike(a, b api.Type) bool {
	return a.Kind == b.Kind && a.S == b.S && len(a.L) == len(b.L)
}

// boundTo returns the type that a type variable stands for, whose own variables stand for types in turn, and whether it is no variable.
func (g graph) boundTo(n int) (api.Type, bool) {
	root := g.types[n].root()
	return root.Type, root.Kind != api.TVar
}

// labels returns how many labels a row has with all that it stands for.
func (g graph) labels(r api.Row) int { return g.whole(r).labels.size() }

// endless reports whether a type would have to contain itself. Classes that lie in no other one are taken away, until there are none: each one that is left lies in another one that is left.
func (g graph) endless() bool {
	roots := g.roots()
	around := map[*node]int{}
	for _, root := range roots {
		for inner := range g.inside(root) {
			around[inner]++
		}
	}
	var outermost []*node
	for _, root := range roots {
		if around[root] == 0 {
			outermost = append(outermost, root)
		}
	}
	taken := 0
	for ; taken < len(outermost); taken++ {
		for inner := range g.inside(outermost[taken]) {
			around[inner]--
			if around[inner] == 0 {
				outermost = append(outermost, inner)
			}
		}
	}
	return taken < len(roots)
}

// roots returns the roots of all variables, each once.
func (g graph) roots() (l []*node) {
	seen := map[*node]bool{}
	for _, n := range numbers(g.types) {
		root := g.types[n].root()
		if !seen[root] {
			l = append(l, root)
		}
		seen[root] = true
	}
	return l
}

// inside yields the roots of the variables that occur in the type of a root, as often as they occur.
func (g graph) inside(root *node) iter.Seq[*node] {
	return func(yield func(*node) bool) {
		for v := range variables(root.Type) {
			if root.Kind != api.TVar && !v.ofRow && !yield(g.types[v.n].root()) {
				return
			}
		}
	}
}

// numbers returns the numbers of variables, ascending.
func numbers[V any](m map[int]V) []int { return slices.Sorted(maps.Keys(m)) }
