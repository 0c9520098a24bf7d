package infer

import (
	"iter"
	"slices"

	"reprise/api"
)

// equation is two types that have to be equal.
type equation struct{ a, b *node }

// graph is the types that are united so far, and the equations that are not solved yet. It does not keep the equations that say what the solution binds: each node knows what it stands for.
type graph struct {
	equations []equation
	bound     int     // how many variables the solution binds
	open      []*node // those of them that are not settled; row types for row variables
	fresh     []*tail
	round     int // numbers the times that nodes are gone over
}

// equate adds an equation.
func (g *graph) equate(a, b *node) { g.equations = append(g.equations, equation{a, b}) }

// equateRows adds an equation between rows.
func (g *graph) equateRows(a, b row) { g.equate(rowType(a), rowType(b)) }

// contradict adds an equation that has no solution.
func (g *graph) contradict() { g.equate(leaf(api.TInt), leaf(api.TBool)) }

// solve solves the equations, together with those that say what the solution so far binds, or leaves the typing with their error.
func (g *graph) solve() {
	need(g.bound+len(g.equations) <= api.MaxSize, api.ErrSize)
	for _, q := range g.equations {
		need(q.a.written.fits() && q.b.written.fits(), api.ErrSize)
	}
	for _, q := range g.equations {
		g.unite(q.a, q.b)
	}
	g.needRoom()
	for _, t := range g.fresh {
		t.fresh = false
	}
	g.fresh, g.equations = nil, nil
}

// unite makes two types stand for the same.
func (g *graph) unite(a, b *node) {
	a, b = a.root(), b.root()
	if a == b {
		return
	}
	if a.kind == api.TVar {
		a, b = b, a
	}
	b.up = a
	if b.kind == api.TVar {
		g.bind(b)
		return
	}
	need(a.kind == b.kind && a.name == b.name && len(a.parts) == len(b.parts), api.ErrType)
	g.uniteRows(a.row, b.row)
	for i, part := range a.parts {
		g.unite(part, b.parts[i])
	}
}

// uniteRows makes two rows stand for the same. A tail to which nothing is lacking stays as it is, so that no more tails are bound than the canonical solution binds; of two such tails, one that is not fresh does.
func (g *graph) uniteRows(a, b row) {
	a, b = a.whole(), b.whole()
	toA, toB := without(b.labels, a.labels), without(a.labels, b.labels)
	bothLackNone := len(toA) == 0 && len(toB) == 0
	switch {
	case a.tail == b.tail:
		need(bothLackNone, api.ErrType)
	case a.tail == nil, b.tail != nil && len(toA) == 0 && !(bothLackNone && a.tail.fresh):
		need(len(toA) == 0, api.ErrType)
		g.bindTail(b.tail, row{toB, a.tail})
	case b.tail == nil, len(toB) == 0:
		need(len(toB) == 0, api.ErrType)
		g.bindTail(a.tail, row{toA, b.tail})
	default:
		end := &tail{fresh: true}
		g.fresh = append(g.fresh, end)
		g.bindTail(a.tail, row{toA, end})
		g.bindTail(b.tail, row{toB, end})
	}
}

// bind notes that a variable is bound.
func (g *graph) bind(variable *node) {
	g.bound++
	g.open = append(g.open, variable)
}

// bindTail lets a tail stand for a row.
func (g *graph) bindTail(t *tail, r row) {
	t.row, t.bound = r, true
	if !t.fresh {
		g.bind(rowType(row{tail: t}))
	}
}

// needRoom leaves the typing if a type would have to contain itself, or else if there is no room for what a part of an equation stands for. What is settled was measured when it was bound.
func (g *graph) needRoom() {
	g.round++
	fit := true
	for _, q := range g.equations {
		held := g.measure(q.a)
		fit = fit && held.fits()
	}
	var open []*node
	for _, variable := range g.open {
		held := g.measure(variable)
		fit = fit && held.fits()
		if !variable.root().settled {
			open = append(open, variable)
		}
	}
	g.open = open
	need(fit, api.ErrSize)
}

// measure returns how much room a type takes with all that its variables stand for, or leaves the typing if it contains itself.
func (g *graph) measure(n *node) room {
	n = n.root()
	if n.settled || n.left == g.round {
		return n.held
	}
	need(n.seen != g.round, api.ErrType)
	n.seen = g.round
	r := n.row.whole()
	held := room{1, 1, len(r.labels)}
	settled := (n.kind != api.TVar || n.general) && (r.tail == nil || r.tail.general)
	for _, part := range n.parts {
		held = held.around(g.measure(part))
		settled = settled && part.root().settled
	}
	n.held, n.settled, n.left = held, settled, g.round
	return held
}

// reached yields the nodes of types and of what their variables stand for, each once.
func (g *graph) reached(types iter.Seq[*node]) iter.Seq[*node] {
	return func(yield func(*node) bool) {
		g.round++
		todo := slices.Collect(types)
		for len(todo) > 0 {
			last := len(todo) - 1
			n := todo[last].root()
			todo = todo[:last]
			if n.seen == g.round {
				continue
			}
			n.seen = g.round
			todo = append(todo, n.parts...)
			if !yield(n) {
				return
			}
		}
	}
}
