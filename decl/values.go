package decl

import (
	"iter"
	"slices"

	"reprise/api"
	"reprise/trees"
)

// term is a type, with what the parameters in it stand for. They are not replaced: where a data type is an argument of itself, types get very large as values get larger.
type term struct {
	api.Type
	params map[string]term
}

// part returns the term of a type that stands within a term.
func (t term) part(x api.Type) term {
	if x.Kind == api.TParam {
		return t.params[x.S]
	}
	return term{x, t.params}
}

// cases yields the constructors of the data type that a term is, each with the terms of its arguments.
func (p program) cases(t term) iter.Seq2[api.Cons, []term] {
	return func(yield func(api.Cons, []term) bool) {
		d := p.Data[p.data[t.S]]
		inside := term{params: map[string]term{}}
		for i, x := range d.Params {
			inside.params[x] = t.part(t.L[i])
		}
		for _, c := range d.Cons {
			var fields []term
			for _, a := range c.Args {
				fields = append(fields, inside.part(a))
			}
			if !yield(c, fields) {
				return
			}
		}
	}
}

// fits reports whether an expression is a value without functions of a term.
func (p program) fits(t term, e api.Expr) bool {
	switch t.Kind {
	case api.TInt:
		return e.Kind == api.Int
	case api.TBool:
		return e.Kind == api.Bool
	case api.TUnit:
		return e.Kind == api.Unit
	case api.TData:
		for c, fields := range p.cases(t) {
			if e.Kind == api.Con && e.S == c.Name {
				return slices.EqualFunc(fields, e.L, p.fits)
			}
		}
	}
	return false
}

// countable returns a program in which the values of a closed type with at most so many nodes can be counted.
func countable(p api.Program, t api.Type, most int) program {
	in := withType(p, t)
	if most < 0 || most > api.MaxDeSize {
		panic(api.ErrArg)
	}
	if in.hasFunctions(t) {
		panic(api.ErrType)
	}
	return in
}

// leaves returns the values of a type that is no data type.
func leaves(t term) []api.Expr {
	switch t.Kind {
	case api.TInt:
		return []api.Expr{{Kind: api.Int, N: 0}, {Kind: api.Int, N: 1}}
	case api.TBool:
		return []api.Expr{{Kind: api.Bool, N: 0}, {Kind: api.Bool, N: 1}}
	}
	return []api.Expr{{Kind: api.Unit}}
}

// counts tells how many there are with each number of nodes.
type counts [api.MaxDeSize + 1]int

// total returns how many there are in all.
func (c counts) total() (n int) {
	for _, k := range c {
		n += k
	}
	return n
}

// times returns how many pairs there are, with each number of nodes of both together.
func (c counts) times(d counts) (pairs counts) {
	for i, k := range c {
		for j, l := range d[:len(d)-i] {
			pairs[i+j] += k * l
		}
	}
	return pairs
}

// count returns how many values of a term there are, up to so many nodes.
func (p program) count(t term, most int) (c counts) {
	if most < 1 {
		return c
	}
	if t.Kind != api.TData {
		c[1] = len(leaves(t))
		return c
	}
	for _, fields := range p.cases(t) {
		args := p.countLists(fields, most-1)
		for n := range most {
			c[n+1] += args[n]
		}
	}
	return c
}

// countLists returns how many lists of a value for each of some terms there are, up to so many nodes.
func (p program) countLists(fields []term, most int) counts {
	c := counts{0: 1}
	for _, f := range fields {
		// Each of the others has a node at least.
		c = c.times(p.count(f, most-len(fields)+1))
	}
	return c
}

// listed returns the values of a term with at most so many nodes, in order, as new memory.
func (p program) listed(t term, most int) (l []api.Expr) {
	for n := range most {
		for _, e := range p.values(t, n+1) {
			l = append(l, trees.Clone(e))
		}
	}
	return l
}

// values returns the values of a term with so many nodes, in order. They may share memory.
func (p program) values(t term, size int) (l []api.Expr) {
	if t.Kind != api.TData {
		if size == 1 {
			return leaves(t)
		}
		return nil
	}
	for c, fields := range p.cases(t) {
		for _, args := range p.lists(fields, size-1) {
			l = append(l, api.Expr{Kind: api.Con, S: c.Name, L: args})
		}
	}
	return l
}

// lists returns the lists of a value for each of some terms with so many nodes in all, in order. They may share memory.
func (p program) lists(fields []term, size int) (l [][]api.Expr) {
	if len(fields) == 0 {
		if size == 0 {
			return [][]api.Expr{nil}
		}
		return nil
	}
	for first := 1; first <= size-len(fields)+1; first++ {
		rests := p.lists(fields[1:], size-first)
		if len(rests) == 0 {
			continue
		}
		for _, x := range p.values(fields[0], first) {
			for _, rest := range rests {
				l = append(l, append([]api.Expr{x}, rest...))
			}
		}
	}
	return l
}
