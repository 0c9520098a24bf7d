package infer

import (
	"iter"
	"slices"

	"reprise/api"
)

// hiding is the number of a named handler's scope, and the types, and those of an environment, that must not mention it.
type hiding struct {
	scope int
	types []*node
	env   *env
}

// checker types expressions.
type checker struct {
	graph
	declarations
	byKind map[api.Kind]rule
	scopes int // how many scopes there are so far
	hidden []hiding
}

// newChecker returns a checker for a program whose declarations are in order.
func newChecker(p api.Program) *checker {
	c := &checker{declarations: declared(p)}
	c.byKind = c.rules()
	return c
}

// program returns the types of the definitions of a program, and of its main expression.
func (c *checker) program() (defs []*node, main *node) {
	at := place{row: closedRow(api.Label{S: api.IO})}
	for _, d := range c.Defs {
		b, t := c.defined(d.Name, d.Body, at)
		defs = append(defs, t)
		at = at.with(b)
	}
	main = c.expr(c.Main, at)
	c.finish()
	return defs, main
}

// alone returns the type of a function from Unit that does what an expression does.
func (c *checker) alone(x api.Expr) *node {
	r := openRow()
	t := c.expr(x, place{row: r})
	c.finish()
	return function(leaf(api.TUnit), r, t)
}

// finish solves all equations, and leaves the typing if a scope is mentioned where it must not be.
func (c *checker) finish() {
	c.solve()
	for _, h := range c.hidden {
		for n := range c.reached(h.places()) {
			mentioned := slices.ContainsFunc(n.row.whole().labels, func(l api.Label) bool { return l.N == h.scope })
			need(!mentioned, api.ErrType)
		}
	}
}

// places yields all types that must not mention the scope.
func (h hiding) places() iter.Seq[*node] {
	return func(yield func(*node) bool) {
		for _, n := range h.types {
			if !yield(n) {
				return
			}
		}
		h.env.types()(yield)
	}
}
