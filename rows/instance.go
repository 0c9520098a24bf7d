package rows

import (
	"slices"

	"reprise/api"
	"reprise/syntax"
)

// matching is what the variables of a type are bound to so that it becomes another one.
type matching bound

// match binds the variables of a type so that it becomes a normal type, and reports whether it can.
func (m matching) match(general, special api.Type) bool {
	if general.Kind == api.TVar {
		return bind(m.types, general.N, special, syntax.SameType)
	}
	if !alike(general, special) || general.Kind == api.TFun && !m.matchRow(general.Row, special.Row) {
		return false
	}
	return slices.EqualFunc(general.L, special.L, m.match)
}

// matchRow binds the tail of a row so that it becomes another one, and reports whether it can.
func (m matching) matchRow(general, special api.Row) bool {
	own, all := multisetOf(general.Labels...), multisetOf(special.Labels...)
	if len(own.without(all)) > 0 {
		return false
	}
	rest := api.Row{Labels: all.without(own).list(), Tail: special.Tail}
	if general.Tail < 0 {
		return len(rest.Labels) == 0 && rest.Tail < 0
	}
	return bind(m.rows, general.Tail, rest, sameRow)
}

// sameRow reports whether two rows are equal.
func sameRow(a, b api.Row) bool {
	return slices.Equal(a.Labels, b.Labels) && a.Tail == b.Tail
}

// bind binds a variable, and reports whether it is not bound to something else.
func bind[T any](to map[int]T, n int, x T, same func(a, b T) bool) bool {
	if y, ok := to[n]; ok {
		return same(x, y)
	}
	to[n] = x
	return true
}

// subst returns the substitution that binds what is bound.
func (m matching) subst() (s api.Subst) {
	for _, n := range numbers(m.types) {
		s.Types = append(s.Types, api.TypeBind{N: n, T: m.types[n]})
	}
	for _, n := range numbers(m.rows) {
		s.Rows = append(s.Rows, api.RowBind{N: n, R: m.rows[n]})
	}
	return s
}
