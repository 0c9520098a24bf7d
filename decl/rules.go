package decl

import (
	"slices"

	"reprise/api"
	"reprise/trees"
)

// rules returns what is asked of the nodes of each kind; of other kinds, nothing is.
func (p program) rules() map[api.Kind]func(api.Expr) api.Errno {
	return map[api.Kind]func(api.Expr) api.Errno{
		api.Con:    p.construction,
		api.Match:  p.match,
		api.Do:     func(e api.Expr) api.Errno { return p.operation(e.S) },
		api.At:     func(e api.Expr) api.Errno { return p.operation(e.T) },
		api.Handle: p.handler,
		api.Named:  p.handler,
		api.Mask:   p.mask,
		api.Using:  p.using,
	}
}

// needExpr leaves the call at the first error of the nodes of a well-formed expression.
func (p program) needExpr(e api.Expr) {
	rules := p.rules()
	need(trees.FirstError(trees.Nodes(e, trees.ExprParts), func(n api.Expr) api.Errno {
		if rule, ok := rules[n.Kind]; ok {
			return rule(n)
		}
		return api.OK
	}))
}

// construction returns the error of a Con.
func (p program) construction(e api.Expr) api.Errno {
	s, ok := p.cons[e.S]
	if !ok {
		return api.ErrNone
	}
	if len(e.L) != len(p.Data[s.of].Cons[s.at].Args) {
		return api.ErrArity
	}
	return api.OK
}

// match returns the error of a Match.
func (p program) match(e api.Expr) api.Errno {
	if len(e.Arms) == 0 {
		return api.ErrCases
	}
	s, ok := p.cons[e.Arms[0].Op]
	if !ok {
		return api.ErrNone
	}
	cons := p.Data[s.of].Cons
	if !slices.EqualFunc(e.Arms, cons, func(a api.Arm, c api.Cons) bool { return a.Op == c.Name }) {
		return api.ErrCases
	}
	if !slices.EqualFunc(e.Arms, cons, func(a api.Arm, c api.Cons) bool { return len(a.Names) == len(c.Args) }) {
		return api.ErrArity
	}
	return api.OK
}

// operation returns the error of a name that has to be that of an operation.
func (p program) operation(name string) api.Errno {
	if _, ok := p.ops[name]; !ok {
		return api.ErrNone
	}
	return api.OK
}

// handler returns the error of a Handle or a Named.
func (p program) handler(e api.Expr) api.Errno {
	ops, ok := p.opsOf(e.S)
	if !ok {
		return api.ErrNone
	}
	if !slices.EqualFunc(e.Arms[1:], ops, func(a api.Arm, o api.Op) bool { return a.Op == o.Name }) {
		return api.ErrCases
	}
	return api.OK
}

// mask returns the error of a Mask.
func (p program) mask(e api.Expr) api.Errno {
	if !p.hasEffect(e.S) {
		return api.ErrNone
	}
	return api.OK
}

// using returns the error of a Using.
func (p program) using(e api.Expr) api.Errno {
	return trees.FirstError(slices.All(e.Names[1:]), func(name string) api.Errno {
		switch {
		case name == api.IO:
			return api.ErrTwice
		case !p.hasEffect(name):
			return api.ErrNone
		}
		return api.OK
	})
}
