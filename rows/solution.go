package rows

import (
	"iter"

	"reprise/api"
	"reprise/syntax"
	"reprise/trees"
)

// sides yields the types of equations, in order, each with the index of its equation.
func sides(l []api.Pair) iter.Seq2[int, api.Type] {
	return func(yield func(int, api.Type) bool) {
		for i, p := range l {
			if !yield(i, p.A) || !yield(i, p.B) {
				return
			}
		}
	}
}

// solved returns the canonical solution of equations.
func solved(l []api.Pair) (api.Subst, error) {
	if len(l) > api.MaxSize {
		return api.Subst{}, failed(api.ErrSize)
	}
	if err := failed(trees.FirstError(sides(l), syntax.CheckType)); err != nil {
		return api.Subst{}, err
	}
	g := newGraph(l)
	for _, p := range l {
		if err := g.solve(p); err != nil {
			return api.Subst{}, err
		}
	}
	if g.endless() {
		return api.Subst{}, failed(api.ErrType)
	}
	for _, t := range sides(l) {
		if !hasRoom(t, g.boundTo, g.labels) {
			return api.Subst{}, failed(api.ErrSize)
		}
	}
	return newWriter(g).solution()
}

// writer writes down what the variables of a graph stand for.
type writer struct {
	graph
	ends map[*tail]int // the numbers of the tails that rows end with
	next int           // the number of the next fresh row variable
}

// newWriter returns a writer by which a tail that row variables stand for, without labels, has the number of the least of them.
func newWriter(g graph) *writer {
	w := &writer{graph: g, ends: map[*tail]int{}}
	for _, n := range numbers(g.rows) {
		r := g.rows[n].whole()
		if _, named := w.ends[r.end]; r.end != nil && len(r.labels) == 0 && !named {
			w.ends[r.end] = n
		}
		w.next = n + 1
	}
	return w
}

// number returns the number of the tail that a row ends with, a new one if it is fresh.
func (w *writer) number(end *tail) int {
	if end == nil {
		return -1
	}
	n, ok := w.ends[end]
	if !ok {
		n = w.next
		w.ends[end] = n
		w.next++
	}
	return n
}

// typeOf returns what a type variable stands for, as new memory.
func (w *writer) typeOf(n int) api.Type {
	root := w.types[n].root()
	if root.Kind == api.TVar {
		return root.Type
	}
	return change{w.typeOf, w.rowOf}.in(root.Type)
}

// rowOf returns what a row variable stands for, as new memory.
func (w *writer) rowOf(n int) api.Row {
	r := w.rows[n].whole()
	return api.Row{Labels: r.labels.list(), Tail: w.number(r.end)}
}

// solution returns the canonical solution.
func (w *writer) solution() (s api.Subst, err error) {
	for _, n := range numbers(w.types) {
		if t := w.typeOf(n); t.Kind != api.TVar || t.N != n {
			s.Types = append(s.Types, api.TypeBind{N: n, T: t})
		}
	}
	for _, n := range numbers(w.rows) {
		if r := w.rowOf(n); r.Tail != n {
			s.Rows = append(s.Rows, api.RowBind{N: n, R: r})
		}
	}
	if w.next > api.MaxInt+1 {
		return api.Subst{}, failed(api.ErrSize)
	}
	return s, nil
}
