package infer

import (
	"cmp"
	"slices"
	"strings"

	"reprise/api"
)

// numbering has numbers, from 0 on, in the order in which they are asked for.
type numbering[K comparable] map[K]int

// of returns the number of a key.
func (m numbering[K]) of(key K) int {
	return remembered(m, key, func() int { return len(m) })
}

// written returns a type, with all that its variables stand for, in canonical form.
func written(n *node) api.Type {
	types, tails := numbering[*node]{}, numbering[*tail]{}
	var write func(n *node) api.Type
	write = func(n *node) api.Type {
		n = n.root()
		switch n.kind {
		case api.TVar:
			return api.Type{Kind: api.TVar, N: types.of(n)}
		case api.TFun:
			argument := write(n.parts[0])
			r := writtenRow(n.row.whole(), tails)
			return api.Type{Kind: api.TFun, L: []api.Type{argument, write(n.parts[1])}, Row: r}
		}
		return api.Type{Kind: n.kind, S: n.name, L: each(n.parts, write)}
	}
	return write(n)
}

// writtenRow returns a row with its labels in order, whose tail stands for itself.
func writtenRow(r row, tails numbering[*tail]) api.Row {
	out := api.Row{Labels: slices.Clone(r.labels), Tail: -1}
	slices.SortFunc(out.Labels, func(a, b api.Label) int {
		return cmp.Or(strings.Compare(a.S, b.S), cmp.Compare(a.N, b.N))
	})
	if r.tail != nil {
		out.Tail = tails.of(r.tail)
	}
	return out
}
