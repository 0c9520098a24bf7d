package infer_test

import (
	"slices"

	"reprise/api"
	"reprise/rows"
)

// The model follows the chapter word by word: types are trees, equations are a list that rows.Solve solves, and what a solution makes of something is found by applying it.

// meaning is what a name stands for in the model: a variable of a type with general variables, a resumption (a function type), or a handler name.
type meaning struct {
	name         string
	kind         int
	t            api.Type
	types, tails []int
	label        api.Label
}

const (
	aVariable = iota
	aResumption
	aHandler
)

// modelHiding is what must not mention a scope in the end.
type modelHiding struct {
	scope int
	types []api.Type
}

// model is the state of the typing of a program.
type model struct {
	p                    api.Program
	equations            []api.Pair
	solution             api.Subst
	types, tails, scopes int
	hidden               []modelHiding
	last                 int // how many equations were solved last
}

func (m *model) newType() api.Type {
	m.types++
	return tvar(m.types)
}

func (m *model) newTail() int {
	m.tails++
	return m.tails
}

func (m *model) equate(a, b api.Type)    { m.equations = append(m.equations, api.Pair{A: a, B: b}) }
func (m *model) equateRows(a, b api.Row) { m.equate(rowType(a), rowType(b)) }
func (m *model) contradict()             { m.equate(tint, tbool) }

// solve solves all equations and replaces them.
func (m *model) solve() {
	_, before := modelVars(pairTypes(m.equations)...)
	s, e := rows.Solve(m.equations)
	if e != api.OK {
		panic(e)
	}
	m.last = len(m.equations)
	renewed := map[int]int{}
	for i := range s.Types {
		s.Types[i].T = m.renewTails(s.Types[i].T, before, renewed)
	}
	for i := range s.Rows {
		s.Rows[i].R = m.renewTails(rowType(s.Rows[i].R), before, renewed).Row
	}
	m.solution, m.equations = s, nil
	for _, b := range s.Types {
		m.equate(tvar(b.N), b.T)
	}
	for _, b := range s.Rows {
		m.equateRows(open(b.N), b.R)
	}
}

// renewTails returns a type whose row variables that are not among some become new ones.
func (m *model) renewTails(t api.Type, some []int, renewed map[int]int) api.Type {
	return replaced(t, tvar, func(n int) api.Row {
		if slices.Contains(some, n) {
			return open(n)
		}
		if _, ok := renewed[n]; !ok {
			renewed[n] = m.newTail()
		}
		return open(renewed[n])
	})
}

// made returns what the solution makes of a type.
func (m *model) made(t api.Type) api.Type {
	types, tails := map[int]api.Type{}, map[int]api.Row{}
	for _, b := range m.solution.Types {
		types[b.N] = b.T
	}
	for _, b := range m.solution.Rows {
		tails[b.N] = b.R
	}
	return replaced(t, func(n int) api.Type {
		if to, ok := types[n]; ok {
			return to
		}
		return tvar(n)
	}, func(n int) api.Row {
		if to, ok := tails[n]; ok {
			return to
		}
		return open(n)
	})
}

// visible returns the meanings of an environment that no other one hides.
func visible(env []meaning) (l []meaning) {
	seen := map[string]bool{}
	for _, b := range slices.Backward(env) {
		key := b.name
		if b.kind == aHandler {
			key = "handler " + b.name
		}
		if !seen[key] {
			l = append(l, b)
		}
		seen[key] = true
	}
	return l
}

// look returns the innermost meaning of a name.
func look(env []meaning, name string, handlers bool) meaning {
	for _, b := range slices.Backward(env) {
		if b.name == name && (b.kind == aHandler) == handlers {
			return b
		}
	}
	panic("not bound")
}

// general returns the meaning of a name that is bound in an environment, generalized.
func (m *model) general(name string, t api.Type, env []meaning) meaning {
	m.solve()
	b := meaning{name: name, t: m.made(t)}
	b.types, b.tails = modelVars(b.t)
	for _, around := range visible(env) {
		if around.kind == aHandler {
			continue
		}
		types, tails := modelVars(m.made(around.t))
		b.types = slices.DeleteFunc(b.types, func(n int) bool { return slices.Contains(types, n) && !slices.Contains(around.types, n) })
		b.tails = slices.DeleteFunc(b.tails, func(n int) bool { return slices.Contains(tails, n) && !slices.Contains(around.tails, n) })
	}
	return b
}

// instance returns a meaning's type with new variables in place of the general ones.
func (m *model) instance(b meaning) api.Type {
	types, tails := map[int]api.Type{}, map[int]int{}
	for _, n := range b.types {
		types[n] = m.newType()
	}
	for _, n := range b.tails {
		tails[n] = m.newTail()
	}
	return replaced(b.t, func(n int) api.Type {
		if to, ok := types[n]; ok {
			return to
		}
		return tvar(n)
	}, func(n int) api.Row {
		if to, ok := tails[n]; ok {
			return open(to)
		}
		return open(n)
	})
}

// with returns an environment with more names.
func with(env []meaning, l ...meaning) []meaning { return slices.Concat(env, l) }

// define returns the meaning of a name that stands for an expression, and the expression's type.
func (m *model) define(name string, x api.Expr, env []meaning, r api.Row) (meaning, api.Type) {
	t := m.expr(x, env, r)
	if modelIsValue(x) {
		return m.general(name, t, env), t
	}
	return meaning{name: name, t: t}, t
}

func modelIsValue(x api.Expr) bool {
	switch x.Kind {
	case api.Var, api.Int, api.Bool, api.Unit, api.Fun:
		return true
	case api.Con:
		return !slices.ContainsFunc(x.L, func(part api.Expr) bool { return !modelIsValue(part) })
	}
	return false
}

// expr returns the type of an expression with a row.
func (m *model) expr(x api.Expr, env []meaning, r api.Row) api.Type {
	switch x.Kind {
	case api.Var:
		b := look(env, x.S, false)
		if b.kind != aVariable {
			m.contradict()
			return m.newType()
		}
		return m.instance(b)
	case api.Int:
		return tint
	case api.Bool:
		return tbool
	case api.Unit:
		return tunit
	case api.Fun:
		a, row := m.newType(), open(m.newTail())
		return fun(a, row, m.expr(x.L[0], with(env, meaning{name: x.Names[0], t: a}), row))
	case api.App:
		f, a, b := m.expr(x.L[0], env, r), m.expr(x.L[1], env, r), m.newType()
		m.equate(f, fun(a, r, b))
		return b
	case api.Let:
		b, _ := m.define(x.Names[0], x.L[0], env, r)
		return m.expr(x.L[1], with(env, b), r)
	case api.Rec:
		a, c, row := m.newType(), m.newType(), open(m.newTail())
		f := fun(a, row, c)
		t := m.expr(x.L[0], with(env, meaning{name: x.Names[0], t: f}, meaning{name: x.Names[1], t: a}), row)
		m.equate(t, c)
		return m.expr(x.L[1], with(env, m.general(x.Names[0], f, env)), r)
	case api.If:
		a, b, c := m.expr(x.L[0], env, r), m.expr(x.L[1], env, r), m.expr(x.L[2], env, r)
		m.equate(a, tbool)
		m.equate(b, c)
		return b
	case api.Prim:
		a, b := m.expr(x.L[0], env, r), m.expr(x.L[1], env, r)
		m.equate(a, tint)
		m.equate(b, tint)
		if x.S == "<" || x.S == "==" {
			return tbool
		}
		return tint
	}
	return m.effectful(x, env, r)
}

// effectful returns the type of an expression of one of the other kinds.
func (m *model) effectful(x api.Expr, env []meaning, r api.Row) api.Type {
	switch x.Kind {
	case api.Con:
		var args []api.Type
		for _, part := range x.L {
			args = append(args, m.expr(part, env, r))
		}
		d, c := m.constructor(x.S)
		t, params := m.data(d)
		for i, a := range args {
			m.equate(a, given(c.Args[i], params))
		}
		return t
	case api.Match:
		return m.match(x, env, r)
	case api.Do, api.At:
		a := m.expr(x.L[0], env, r)
		name := x.S
		if x.Kind == api.At {
			name = x.T
		}
		f, o := m.operation(name)
		label := api.Label{S: f.Name}
		if x.Kind == api.At {
			h := look(env, x.S, true)
			label.N = h.label.N
			if h.label.S != f.Name {
				m.contradict()
			}
		}
		m.equate(a, o.Arg)
		m.equateRows(r, open(m.newTail(), label))
		return o.Res
	case api.Handle, api.Named:
		return m.handle(x, env, r)
	case api.Mask:
		tail := m.newTail()
		t := m.expr(x.L[0], env, open(tail))
		m.equateRows(r, open(tail, api.Label{S: x.S}))
		return t
	case api.Using:
		o, f := m.expr(x.L[0], env, r), m.expr(x.L[1], env, r)
		t := m.expr(x.L[2], with(env, meaning{name: x.Names[0], t: o}), r)
		labels := []api.Label{{S: api.IO}}
		for _, name := range x.Names[1:] {
			labels = append(labels, api.Label{S: name})
		}
		m.equateRows(r, closed(labels...))
		m.equate(f, fun(o, closed(api.Label{S: api.IO}), tunit))
		return t
	case api.Resume:
		a, k := m.expr(x.L[0], env, r), look(env, x.S, false)
		if k.kind != aResumption {
			m.contradict()
			return m.newType()
		}
		m.equate(a, k.t.L[0])
		m.equateRows(r, k.t.Row)
		return k.t.L[1]
	}
	if look(env, x.S, false).kind != aResumption {
		m.contradict()
	}
	m.equateRows(r, open(m.newTail(), api.Label{S: api.IO}))
	return tunit
}

func (m *model) match(x api.Expr, env []meaning, r api.Row) api.Type {
	s := m.expr(x.L[0], env, r)
	d, _ := m.constructor(x.Arms[0].Op)
	t, params := m.data(d)
	var bodies []api.Type
	for i, a := range x.Arms {
		arm := env
		for j, name := range a.Names {
			arm = with(arm, meaning{name: name, t: given(d.Cons[i].Args[j], params)})
		}
		bodies = append(bodies, m.expr(a.Body, arm, r))
	}
	m.equate(s, t)
	all := m.newType()
	for _, b := range bodies {
		m.equate(b, all)
	}
	return all
}

func (m *model) handle(x api.Expr, env []meaning, r api.Row) api.Type {
	label, inside := api.Label{S: x.S}, env
	if x.Kind == api.Named {
		m.scopes++
		label.N = m.scopes
		inside = with(env, meaning{name: x.Names[0], kind: aHandler, label: label})
	}
	row := open(r.Tail, slices.Concat(r.Labels, []api.Label{label})...)
	t := m.expr(x.L[0], inside, row)
	a := m.newType()
	clauses := []api.Type{m.expr(x.Arms[0].Body, with(env, meaning{name: x.Arms[0].Names[0], t: t}), r)}
	for _, arm := range x.Arms[1:] {
		_, o := m.operation(arm.Op)
		k := meaning{name: arm.Names[1], t: fun(o.Res, r, a)}
		if x.N == 1 {
			k.t = fun(o.Res, row, t)
		}
		if o.Once {
			k.kind = aResumption
		}
		clauses = append(clauses, m.expr(arm.Body, with(env, meaning{name: arm.Names[0], t: o.Arg}, k), r))
	}
	for _, c := range clauses {
		m.equate(c, a)
	}
	if x.Kind == api.Named {
		h := modelHiding{label.N, []api.Type{t, a, rowType(r)}}
		for _, b := range visible(env) {
			if b.kind != aHandler {
				h.types = append(h.types, b.t)
			}
		}
		m.hidden = append(m.hidden, h)
	}
	return a
}

// constructor, operation and data return what is declared.
func (m *model) constructor(name string) (api.Data, api.Cons) {
	for _, d := range m.p.Data {
		for _, c := range d.Cons {
			if c.Name == name {
				return d, c
			}
		}
	}
	panic("no constructor")
}

func (m *model) operation(name string) (api.Effect, api.Op) {
	for _, f := range append(slices.Clone(m.p.Effects), io) {
		for _, o := range f.Ops {
			if o.Name == name {
				return f, o
			}
		}
	}
	panic("no operation")
}

func (m *model) data(d api.Data) (api.Type, map[string]api.Type) {
	t, params := data(d.Name), map[string]api.Type{}
	for _, name := range d.Params {
		params[name] = m.newType()
		t.L = append(t.L, params[name])
	}
	return t, params
}

// finish solves all equations and checks scopes.
func (m *model) finish() {
	m.solve()
	for _, h := range m.hidden {
		for _, t := range h.types {
			if mentions(m.made(t), h.scope) {
				panic(api.ErrType)
			}
		}
	}
}

func mentions(t api.Type, scope int) bool {
	return slices.ContainsFunc(t.Row.Labels, func(l api.Label) bool { return l.N == scope }) ||
		slices.ContainsFunc(t.L, func(part api.Type) bool { return mentions(part, scope) })
}

// modelInfer returns what Infer is to return for a program that is in order and closed.
func modelInfer(p api.Program) (defs []api.Type, main api.Type, e api.Errno) {
	m := &model{p: p}
	defer func() {
		if stop := recover(); stop != nil {
			defs, main, e = nil, api.Type{}, stop.(api.Errno)
		}
	}()
	var env []meaning
	r := closed(api.Label{S: api.IO})
	for _, d := range p.Defs {
		b, t := m.define(d.Name, d.Body, env, r)
		defs = append(defs, t)
		env = with(env, b)
	}
	main = m.expr(p.Main, env, r)
	m.finish()
	for i, t := range defs {
		defs[i] = modelCanon(m.made(t))
	}
	return defs, modelCanon(m.made(main)), api.OK
}

// modelExpr returns what Expr is to return for an expression that is in order and closed.
func modelExpr(p api.Program, x api.Expr) (t api.Type, e api.Errno) {
	return (&model{p: p}).alone(x)
}

// alone returns the type of an expression by itself.
func (m *model) alone(x api.Expr) (t api.Type, e api.Errno) {
	defer func() {
		if stop := recover(); stop != nil {
			t, e = api.Type{}, stop.(api.Errno)
		}
	}()
	r := open(m.newTail())
	t = m.expr(x, nil, r)
	m.finish()
	return modelCanon(m.made(fun(tunit, r, t))), api.OK
}

// modelCanon returns the canonical form of a type of any size.
func modelCanon(t api.Type) api.Type {
	types, tails := modelVars(t)
	return replaced(t, func(n int) api.Type { return tvar(slices.Index(types, n)) }, func(n int) api.Row { return open(slices.Index(tails, n)) })
}

// modelVars returns the variables of types in the order of their first occurrence.
func modelVars(l ...api.Type) (types, tails []int) {
	seenTypes, seenTails := map[int]bool{}, map[int]bool{}
	var look func(t api.Type)
	look = func(t api.Type) {
		if t.Kind == api.TVar && !seenTypes[t.N] {
			seenTypes[t.N] = true
			types = append(types, t.N)
		}
		for i, part := range t.L {
			if t.Kind == api.TFun && i == 1 && t.Row.Tail != -1 && !seenTails[t.Row.Tail] {
				seenTails[t.Row.Tail] = true
				tails = append(tails, t.Row.Tail)
			}
			look(part)
		}
	}
	for _, t := range l {
		look(t)
	}
	return types, tails
}

// replaced returns a type in which types are put in the place of variables, and rows in the place of tails; labels are in order.
func replaced(t api.Type, types func(int) api.Type, tails func(int) api.Row) api.Type {
	if t.Kind == api.TVar {
		return types(t.N)
	}
	var parts []api.Type
	for _, part := range t.L {
		parts = append(parts, replaced(part, types, tails))
	}
	t.L = parts
	if t.Kind == api.TFun {
		end := closed()
		if t.Row.Tail != -1 {
			end = tails(t.Row.Tail)
		}
		t.Row = open(end.Tail, slices.SortedFunc(slices.Values(slices.Concat(t.Row.Labels, end.Labels)), compareLabels)...)
	}
	return t
}

// given returns a declared type with types in place of its parameters.
func given(t api.Type, params map[string]api.Type) api.Type {
	if t.Kind == api.TParam {
		return params[t.S]
	}
	var parts []api.Type
	for _, part := range t.L {
		parts = append(parts, given(part, params))
	}
	t.L = parts
	return t
}

func compareLabels(a, b api.Label) int {
	switch {
	case a.S < b.S || a.S == b.S && a.N < b.N:
		return -1
	case a == b:
		return 0
	}
	return 1
}

// pairTypes returns the sides of equations.
func pairTypes(l []api.Pair) (out []api.Type) {
	for _, p := range l {
		out = append(out, p.A, p.B)
	}
	return out
}
