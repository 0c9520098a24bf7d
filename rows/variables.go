package rows

import (
	"iter"

	"reprise/api"
)

// variable is a type variable or a row variable.
type variable struct {
	ofRow bool
	n     int
}

// variables yields the occurrences of variables in a well-formed type, from left to right.
func variables(t api.Type) iter.Seq[variable] {
	return func(yield func(variable) bool) { eachVariable(t, yield) }
}

// eachVariable yields occurrences of variables, and reports whether more of them are asked for.
func eachVariable(t api.Type, yield func(variable) bool) bool {
	switch t.Kind {
	case api.TVar:
		return yield(variable{n: t.N})
	case api.TFun:
		closed := t.Row.Tail < 0
		return eachVariable(t.L[0], yield) && (closed || yield(variable{true, t.Row.Tail})) && eachVariable(t.L[1], yield)
	}
	for _, part := range t.L {
		if !eachVariable(part, yield) {
			return false
		}
	}
	return true
}

// binding is a variable, and the type that it is bound to; a row is that of a function type.
type binding struct {
	variable
	to api.Type
}

// bindings yields the bindings of a substitution, those of types first.
func bindings(s api.Subst) iter.Seq[binding] {
	return func(yield func(binding) bool) {
		for _, b := range s.Types {
			if !yield(binding{variable{n: b.N}, b.T}) {
				return
			}
		}
		unit := api.Type{Kind: api.TUnit}
		for _, b := range s.Rows {
			if !yield(binding{variable{true, b.N}, api.Type{Kind: api.TFun, L: []api.Type{unit, unit}, Row: b.R}}) {
				return
			}
		}
	}
}

// numbering has new numbers, from 0 on in the order in which they are asked for.
type numbering map[int]int

// number returns the new number of a variable.
func (m numbering) number(n int) int {
	at, ok := m[n]
	if !ok {
		at = len(m)
		m[n] = at
	}
	return at
}

// kept returns a number as it is.
func kept(n int) int { return n }
