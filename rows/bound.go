package rows

import "reprise/api"

// bound is what a valid substitution binds.
type bound struct {
	types map[int]api.Type
	rows  map[int]api.Row
}

// boundBy returns what a valid substitution binds.
func boundBy(s api.Subst) bound {
	b := bound{types: map[int]api.Type{}, rows: map[int]api.Row{}}
	for _, x := range s.Types {
		b.types[x.N] = x.T
	}
	for _, x := range s.Rows {
		b.rows[x.N] = x.R
	}
	return b
}

// boundTo returns the type that a variable is bound to, and whether it is.
func (b bound) boundTo(n int) (api.Type, bool) {
	t, ok := b.types[n]
	return t, ok
}

// labels returns how many labels a row becomes. A closed row has a tail that is not bound.
func (b bound) labels(r api.Row) int {
	return len(r.Labels) + len(b.rows[r.Tail].Labels)
}

// typeOf returns what a type variable becomes, as new memory.
func (b bound) typeOf(n int) api.Type {
	if t, ok := b.types[n]; ok {
		return normal(t)
	}
	return api.Type{Kind: api.TVar, N: n}
}

// rowOf returns what the tail of a row becomes. Its labels are those of the substitution, and are copied where they are put in order.
func (b bound) rowOf(n int) api.Row {
	if r, ok := b.rows[n]; ok {
		return r
	}
	return api.Row{Tail: n}
}
