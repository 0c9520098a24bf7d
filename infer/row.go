package infer

import (
	"slices"

	"reprise/api"
)

// row is a row of effects: labels, in any order, and a tail, nil if it is closed. Its labels are not changed once it is made.
type row struct {
	labels []api.Label
	tail   *tail
}

// tail is a row variable. It stands for itself, and once it is bound, for the row that it embeds.
type tail struct {
	row
	bound   bool
	general bool
	fresh   bool // it is made by the solving of the equations, so that the solution does not bind it
	seen    int  // the last round in which it was come upon
}

// openRow returns a row that is a variable that is not used yet.
func openRow() row { return row{tail: &tail{}} }

// closedRow returns a closed row.
func closedRow(labels ...api.Label) row { return row{labels: labels} }

// with returns a row with a label more.
func (r row) with(l api.Label) row { return row{joined(r.labels, []api.Label{l}), r.tail} }

// whole returns a row with all that its tail stands for, and lets all tails on the way stand for what they come to.
func (r row) whole() row {
	if r.tail == nil || !r.tail.bound {
		return r
	}
	rest := r.tail.row.whole()
	r.tail.row = rest
	return row{joined(r.labels, rest.labels), rest.tail}
}

// joined returns the labels of two lists.
func joined(a, b []api.Label) []api.Label {
	switch {
	case len(a) == 0:
		return b
	case len(b) == 0:
		return a
	}
	return slices.Concat(a, b)
}

// without returns the labels of a list, each as often less as it occurs in another one.
func without(l, others []api.Label) (left []api.Label) {
	if len(l) == 0 || len(others) == 0 {
		return l
	}
	less := map[api.Label]int{}
	for _, x := range others {
		less[x]++
	}
	for _, x := range l {
		if less[x] == 0 {
			left = append(left, x)
		} else {
			less[x]--
		}
	}
	return left
}
