package infer

import (
	"iter"

	"reprise/api"
)

// meaning is what kind of thing a name stands for.
type meaning int

// The meanings.
const (
	variable meaning = iota
	resumption
	handler
)

// binding is a name with what it stands for: a variable for a type, a resumption for a function type, and a handler name for a label.
type binding struct {
	name        string
	as          meaning
	of          *node
	generalized bool
	label       api.Label
}

// env is an environment: a binding, and the environment around it.
type env struct {
	binding
	outer *env
}

// all yields the bindings of an environment, the innermost first.
func (e *env) all() iter.Seq[binding] {
	return func(yield func(binding) bool) {
		for at := e; at != nil; at = at.outer {
			if !yield(at.binding) {
				return
			}
		}
	}
}

// find returns the innermost binding of a name, among handler names or among all others.
func (e *env) find(name string, handlers bool) binding {
	for b := range e.all() {
		if b.name == name && (b.as == handler) == handlers {
			return b
		}
	}
	return binding{}
}

// types yields types that have all variables, and mention all scopes, that are free in the environment. A generalized type has none that are not in the bindings around it. Types of hidden names make no difference: what is typed behind them comes by their variables only through names that are not hidden.
func (e *env) types() iter.Seq[*node] {
	return func(yield func(*node) bool) {
		for b := range e.all() {
			if b.as != handler && !b.generalized && !yield(b.of) {
				return
			}
		}
	}
}

// place is where an expression stands: in an environment, and evaluated with a row.
type place struct {
	*env
	row row
}

// with returns a place with more names.
func (p place) with(l ...binding) place {
	for _, b := range l {
		p.env = &env{b, p.env}
	}
	return p
}

// evaluated returns a place with another row.
func (p place) evaluated(r row) place {
	p.row = r
	return p
}
