package rows

import (
	"slices"

	"reprise/api"
)

// row is a row with all that it stands for: labels, and the tail that they end with, nil if it is closed.
type row struct {
	labels multiset
	end    *tail
}

// tail is what a row variable stands for: itself, or, once it has taken up a row, that row.
type tail struct {
	row
	taken bool
}

// whole returns the row that a tail stands for, and lets all tails on the way stand for what they come to.
func (t *tail) whole() row {
	var way []*tail
	for t != nil && t.taken {
		way = append(way, t)
		t = t.end
	}
	all := row{end: t}
	for _, taken := range slices.Backward(way) {
		all.labels = all.labels.with(taken.labels)
		taken.row = all
	}
	return all
}

// take lets a tail stand for labels and another tail, and reports whether it can: a closed row takes up no labels.
func (t *tail) take(labels multiset, end *tail) bool {
	if t == nil {
		return len(labels) == 0
	}
	t.row, t.taken = row{labels, end}, true
	return true
}

// whole returns a row with all that it stands for.
func (g graph) whole(r api.Row) (all row) {
	if r.Tail >= 0 {
		all = g.rows[r.Tail].whole()
	}
	all.labels = all.labels.with(multisetOf(r.Labels...))
	return all
}

// solveRows makes two rows stand for the same, and reports whether they can.
func (g graph) solveRows(r, s api.Row) bool {
	a, b := g.whole(r), g.whole(s)
	lackedByA, lackedByB := b.labels.without(a.labels), a.labels.without(b.labels)
	if a.end == b.end {
		return len(lackedByA) == 0 && len(lackedByB) == 0
	}
	var both *tail
	if a.end != nil && b.end != nil {
		both = &tail{}
	}
	return a.end.take(lackedByA, both) && b.end.take(lackedByB, both)
}
