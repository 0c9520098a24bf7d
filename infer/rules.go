package infer

import (
	"reprise/api"
	"reprise/trees"
)

// rule types a node at a place.
type rule func(x api.Expr, at place) *node

// rules returns the rules of all kinds of nodes.
func (c *checker) rules() map[api.Kind]rule {
	return map[api.Kind]rule{
		api.Var: c.variable, api.Int: c.literal, api.Bool: c.literal, api.Unit: c.literal, api.Fun: c.function, api.App: c.application,
		api.Let: c.let, api.Rec: c.recursion, api.If: c.choice, api.Prim: c.operator, api.Con: c.construction, api.Match: c.match,
		api.Do: c.perform, api.At: c.perform, api.Handle: c.handle, api.Named: c.handle, api.Mask: c.mask, api.Using: c.using,
		api.Resume: c.resume, api.Drop: c.drop,
	}
}

// expr returns the type of an expression.
func (c *checker) expr(x api.Expr, at place) *node { return c.byKind[x.Kind](x, at) }

// variable types a Var, whose type has new variables in place of the general ones.
func (c *checker) variable(x api.Expr, at place) *node {
	b := at.find(x.S, false)
	if b.as != variable {
		c.contradict()
		return newVariable()
	}
	return renewing()(b.of)
}

// literal types an Int, a Bool and a Unit.
func (c *checker) literal(x api.Expr, _ place) *node {
	switch x.Kind {
	case api.Int:
		return leaf(api.TInt)
	case api.Bool:
		return leaf(api.TBool)
	}
	return leaf(api.TUnit)
}

// function types a Fun.
func (c *checker) function(x api.Expr, at place) *node {
	argument, r := newVariable(), openRow()
	result := c.expr(x.L[0], at.with(binding{name: x.Names[0], of: argument}).evaluated(r))
	return function(argument, r, result)
}

// application types an App.
func (c *checker) application(x api.Expr, at place) *node {
	f := c.expr(x.L[0], at)
	argument := c.expr(x.L[1], at)
	result := newVariable()
	c.equate(f, function(argument, at.row, result))
	return result
}

// defined returns the binding of a name to an expression, and the type of the expression itself, whose variables are not replaced where it is told.
func (c *checker) defined(name string, x api.Expr, at place) (binding, *node) {
	t := c.expr(x, at)
	if trees.IsValue(x) {
		return c.generalize(name, t, at.env), t
	}
	return binding{name: name, of: t}, t
}

// let types a Let.
func (c *checker) let(x api.Expr, at place) *node {
	b, _ := c.defined(x.Names[0], x.L[0], at)
	return c.expr(x.L[1], at.with(b))
}

// recursion types a Rec.
func (c *checker) recursion(x api.Expr, at place) *node {
	argument, result, r := newVariable(), newVariable(), openRow()
	f := function(argument, r, result)
	inside := at.with(binding{name: x.Names[0], of: f}, binding{name: x.Names[1], of: argument})
	c.equate(c.expr(x.L[0], inside.evaluated(r)), result)
	return c.expr(x.L[1], at.with(c.generalize(x.Names[0], f, at.env)))
}

// choice types an If.
func (c *checker) choice(x api.Expr, at place) *node {
	condition := c.expr(x.L[0], at)
	first := c.expr(x.L[1], at)
	second := c.expr(x.L[2], at)
	c.equate(condition, leaf(api.TBool))
	c.equate(first, second)
	return first
}

// operator types a Prim.
func (c *checker) operator(x api.Expr, at place) *node {
	left := c.expr(x.L[0], at)
	right := c.expr(x.L[1], at)
	c.equate(left, leaf(api.TInt))
	c.equate(right, leaf(api.TInt))
	if x.S == "<" || x.S == "==" {
		return leaf(api.TBool)
	}
	return leaf(api.TInt)
}

// construction types a Con.
func (c *checker) construction(x api.Expr, at place) *node {
	arguments := each(x.L, func(part api.Expr) *node { return c.expr(part, at) })
	t, i := c.constructor(x.S)
	renew := renewing()
	for j, argument := range arguments {
		c.equate(argument, renew(t.fields[i][j]))
	}
	return renew(t.node)
}

// match types a Match.
func (c *checker) match(x api.Expr, at place) *node {
	scrutinee := c.expr(x.L[0], at)
	t, _ := c.constructor(x.Arms[0].Op)
	renew := renewing()
	var bodies []*node
	for i, a := range x.Arms {
		arm := at
		for j, name := range a.Names {
			arm = arm.with(binding{name: name, of: renew(t.fields[i][j])})
		}
		bodies = append(bodies, c.expr(a.Body, arm))
	}
	c.equate(scrutinee, renew(t.node))
	result := newVariable()
	for _, body := range bodies {
		c.equate(body, result)
	}
	return result
}

// perform types a Do and an At.
func (c *checker) perform(x api.Expr, at place) *node {
	argument := c.expr(x.L[0], at)
	name, scope := x.S, 0
	if x.Kind == api.At {
		name = x.T
		scope = c.scope(x, at)
	}
	o := c.operation(name)
	c.equate(argument, o.arg)
	c.equateRows(at.row, openRow().with(api.Label{S: o.effect, N: scope}))
	return o.res
}

// scope returns the scope of the handler to which an At performs.
func (c *checker) scope(x api.Expr, at place) int {
	b := at.find(x.S, true)
	if b.label.S != c.operation(x.T).effect {
		c.contradict()
	}
	return b.label.N
}

// handle types a Handle and a Named.
func (c *checker) handle(x api.Expr, at place) *node {
	label, inside := api.Label{S: x.S}, at
	switch x.Kind {
	case api.Named:
		c.scopes++
		label.N = c.scopes
		inside = inside.with(binding{name: x.Names[0], as: handler, label: label})
		fallthrough
	case api.Handle:
		inside.row = at.row.with(label)
	}
	body := c.expr(x.L[0], inside)
	result := newVariable()
	yields, r := result, at.row
	if shallow := x.Kind == api.Handle && x.N == 1; shallow {
		yields, r = body, inside.row
	}
	clauses := []*node{c.expr(x.Arms[0].Body, at.with(binding{name: x.Arms[0].Names[0], of: body}))}
	for _, a := range x.Arms[1:] {
		o := c.operation(a.Op)
		k := binding{name: a.Names[1], of: function(o.res, r, yields)}
		if o.once {
			k.as = resumption
		}
		clauses = append(clauses, c.expr(a.Body, at.with(binding{name: a.Names[0], of: o.arg}, k)))
	}
	for _, clause := range clauses {
		c.equate(clause, result)
	}
	if x.Kind == api.Named {
		c.hidden = append(c.hidden, hiding{label.N, []*node{body, result, rowType(at.row)}, at.env})
	}
	return result
}

// mask types a Mask.
func (c *checker) mask(x api.Expr, at place) *node {
	r := openRow()
	body := c.expr(x.L[0], at.evaluated(r))
	c.equateRows(at.row, r.with(api.Label{S: x.S}))
	return body
}

// using types a Using.
func (c *checker) using(x api.Expr, at place) *node {
	resource := c.expr(x.L[0], at)
	finalizer := c.expr(x.L[1], at)
	body := c.expr(x.L[2], at.with(binding{name: x.Names[0], of: resource}))
	io := closedRow(api.Label{S: api.IO})
	allowed := io
	for _, name := range x.Names[1:] {
		allowed = allowed.with(api.Label{S: name})
	}
	c.equateRows(at.row, allowed)
	c.equate(finalizer, function(resource, io, leaf(api.TUnit)))
	return body
}

// resume types a Resume.
func (c *checker) resume(x api.Expr, at place) *node {
	argument := c.expr(x.L[0], at)
	k := at.find(x.S, false)
	if k.as != resumption {
		c.contradict()
		return newVariable()
	}
	c.equate(argument, k.of.parts[0])
	c.equateRows(at.row, k.of.row)
	return k.of.parts[1]
}

// drop types a Drop.
func (c *checker) drop(x api.Expr, at place) *node {
	if k := at.find(x.S, false); k.as != resumption {
		c.contradict()
	}
	c.equateRows(at.row, openRow().with(api.Label{S: api.IO}))
	return leaf(api.TUnit)
}
