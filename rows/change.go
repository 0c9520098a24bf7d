package rows

import "reprise/api"

// change tells what is put in the place of a type variable, and in the place of the tail of a row.
type change struct {
	typeOf func(n int) api.Type
	rowOf  func(n int) api.Row
}

// in returns a well-formed type with all variables replaced, in normal form, as new memory. Variables are asked for from left to right.
func (c change) in(t api.Type) api.Type {
	if t.Kind == api.TVar {
		return c.typeOf(t.N)
	}
	out := api.Type{Kind: t.Kind, S: t.S}
	for i, part := range t.L {
		if t.Kind == api.TFun && i == 1 {
			out.Row = c.inRow(t.Row)
		}
		out.L = append(out.L, c.in(part))
	}
	return out
}

// inRow returns the row of a function type with its tail replaced, in normal form, as new memory.
func (c change) inRow(r api.Row) api.Row {
	end := api.Row{Tail: r.Tail}
	if r.Tail >= 0 {
		end = c.rowOf(r.Tail)
	}
	return api.Row{Labels: inOrder(r.Labels, end.Labels...), Tail: end.Tail}
}

// renaming returns the change that gives variables other numbers.
func renaming(types, rows func(n int) int) change {
	return change{
		typeOf: func(n int) api.Type { return api.Type{Kind: api.TVar, N: types(n)} },
		rowOf:  func(n int) api.Row { return api.Row{Tail: rows(n)} },
	}
}

// normal returns the normal type of a well-formed type, as new memory.
func normal(t api.Type) api.Type { return renaming(kept, kept).in(t) }
