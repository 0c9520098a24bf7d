package rows_test

import (
	"slices"

	"reprise/api"
	"reprise/syntax"
)

// The model follows the chapter word by word: labels are lists that others are taken out of, substitutions are applied to all equations as soon as a variable is bound, and the canonical solution is made of any most general one.

// modelNormal returns a type with the labels of each row in order.
func modelNormal(x api.Type) api.Type {
	x = shallow(x)
	slices.SortFunc(x.Row.Labels, func(a, b api.Label) int {
		switch {
		case a.S < b.S || a.S == b.S && a.N < b.N:
			return -1
		case a == b:
			return 0
		}
		return 1
	})
	for i, part := range x.L {
		x.L[i] = modelNormal(part)
	}
	return x
}

// shallow returns a type whose own lists are copies.
func shallow(x api.Type) api.Type {
	x.Row.Labels, x.L = slices.Clone(x.Row.Labels), slices.Clone(x.L)
	return x
}

// modelEqual reports whether two types are equal.
func modelEqual(a, b api.Type) bool { return syntax.SameType(modelNormal(a), modelNormal(b)) }

// modelVars returns the variables of types in the order of their first occurrence.
func modelVars(l ...api.Type) (types, rows []int) {
	var look func(x api.Type)
	look = func(x api.Type) {
		if x.Kind == api.TVar && !slices.Contains(types, x.N) {
			types = append(types, x.N)
		}
		for i, part := range x.L {
			if x.Kind == api.TFun && i == 1 && x.Row.Tail != -1 && !slices.Contains(rows, x.Row.Tail) {
				rows = append(rows, x.Row.Tail)
			}
			look(part)
		}
	}
	for _, x := range l {
		look(x)
	}
	return types, rows
}

// modelApply applies a substitution once, whether it is valid or not.
func modelApply(s api.Subst, x api.Type) api.Type {
	x = shallow(x)
	if i := slices.IndexFunc(s.Types, func(b api.TypeBind) bool { return x.Kind == api.TVar && b.N == x.N }); i >= 0 {
		return modelNormal(s.Types[i].T)
	}
	for i, part := range x.L {
		x.L[i] = modelApply(s, part)
	}
	if i := slices.IndexFunc(s.Rows, func(b api.RowBind) bool { return x.Kind == api.TFun && b.N == x.Row.Tail }); i >= 0 {
		x.Row = api.Row{Labels: slices.Concat(x.Row.Labels, s.Rows[i].R.Labels), Tail: s.Rows[i].R.Tail}
	}
	return modelNormal(x)
}

// modelTake returns labels without others, and whether all of these were among them.
func modelTake(l, less []api.Label) (left []api.Label, all bool) {
	left, all = slices.Clone(l), true
	for _, x := range less {
		if i := slices.Index(left, x); i >= 0 {
			left = slices.Delete(left, i, i+1)
		} else {
			all = false
		}
	}
	return left, all
}

// modelSize and modelDepth are the size and the depth of a type, and modelLabels the greatest number of labels of its rows.
func modelSize(x api.Type) int {
	n := 1
	for _, part := range x.L {
		n += modelSize(part)
	}
	return n
}

func modelDepth(x api.Type) int {
	n := 0
	for _, part := range x.L {
		n = max(n, modelDepth(part))
	}
	return n + 1
}

func modelLabels(x api.Type) int {
	n := len(x.Row.Labels)
	for _, part := range x.L {
		n = max(n, modelLabels(part))
	}
	return n
}

// modelHasRoom reports whether a type is within the limits.
func modelHasRoom(x api.Type) bool {
	return modelSize(x) <= api.MaxSize && modelDepth(x) <= api.MaxDepth && modelLabels(x) <= 2*api.MaxDecls
}

// modelSolver has bindings of variables, none of which occurs in any of them.
type modelSolver struct {
	s     api.Subst
	fresh int
}

// bindType and bindRow bind a variable, also in what is bound already.
func (m *modelSolver) bindType(n int, x api.Type) {
	m.bind(api.Subst{Types: []api.TypeBind{{N: n, T: x}}})
}

func (m *modelSolver) bindRow(n int, r api.Row) {
	m.bind(api.Subst{Rows: []api.RowBind{{N: n, R: r}}})
}

func (m *modelSolver) bind(one api.Subst) {
	for i := range m.s.Types {
		m.s.Types[i].T = modelApply(one, m.s.Types[i].T)
	}
	for i := range m.s.Rows {
		m.s.Rows[i].R = modelApply(one, rowType(m.s.Rows[i].R)).Row
	}
	m.s.Types = append(m.s.Types, one.Types...)
	m.s.Rows = append(m.s.Rows, one.Rows...)
}

// solve solves an equation, and reports whether it could.
func (m *modelSolver) solve(a, b api.Type) bool {
	a, b = modelApply(m.s, a), modelApply(m.s, b)
	if b.Kind == api.TVar {
		a, b = b, a
	}
	if a.Kind == api.TVar {
		if modelEqual(a, b) {
			return true
		}
		if types, _ := modelVars(b); slices.Contains(types, a.N) {
			return false
		}
		m.bindType(a.N, b)
		return true
	}
	if a.Kind != b.Kind || a.S != b.S || a.N != b.N || len(a.L) != len(b.L) {
		return false
	}
	for i := range a.L {
		if !m.solve(a.L[i], b.L[i]) {
			return false
		}
	}
	return a.Kind != api.TFun || m.solveRows(modelApply(m.s, rowType(a.Row)).Row, modelApply(m.s, rowType(b.Row)).Row)
}

// solveRows solves an equation of rows.
func (m *modelSolver) solveRows(a, b api.Row) bool {
	x, _ := modelTake(a.Labels, b.Labels)
	y, _ := modelTake(b.Labels, a.Labels)
	switch {
	case a.Tail == b.Tail:
		return len(x)+len(y) == 0
	case a.Tail == -1:
		if len(y) > 0 {
			return false
		}
		m.bindRow(b.Tail, closed(x...))
		return true
	case b.Tail == -1:
		return m.solveRows(b, a)
	}
	m.fresh++
	m.bindRow(a.Tail, open(m.fresh, y...))
	m.bindRow(b.Tail, open(m.fresh, x...))
	return true
}

// modelSolve returns what Solve is to return for well-formed equations.
func modelSolve(l []api.Pair) (api.Subst, api.Errno) {
	m := modelSolver{fresh: 1 << 40}
	for _, p := range l {
		if !m.solve(p.A, p.B) {
			return api.Subst{}, api.ErrType
		}
	}
	var all []api.Type
	for _, p := range l {
		all = append(all, p.A, p.B)
		if !modelHasRoom(modelApply(m.s, p.A)) || !modelHasRoom(modelApply(m.s, p.B)) {
			return api.Subst{}, api.ErrSize
		}
	}
	return modelCanonical(m.s, all)
}

// modelCanonical returns the canonical form of a most general solution of equations between types.
func modelCanonical(s api.Subst, l []api.Type) (out api.Subst, e api.Errno) {
	types, rows := modelVars(l...)
	slices.Sort(types)
	slices.Sort(rows)
	var names api.Subst
	for _, n := range slices.Backward(types) {
		if x := modelApply(s, tvar(n)); x.Kind == api.TVar {
			names.Types = slices.DeleteFunc(names.Types, func(b api.TypeBind) bool { return b.N == x.N })
			names.Types = append(names.Types, api.TypeBind{N: x.N, T: tvar(n)})
		}
	}
	for _, n := range slices.Backward(rows) {
		if r := modelApply(s, rowType(open(n))).Row; len(r.Labels) == 0 && r.Tail != -1 {
			names.Rows = slices.DeleteFunc(names.Rows, func(b api.RowBind) bool { return b.N == r.Tail })
			names.Rows = append(names.Rows, api.RowBind{N: r.Tail, R: open(n)})
		}
	}
	for _, n := range types {
		if x := modelApply(names, modelApply(s, tvar(n))); !modelEqual(x, tvar(n)) {
			out.Types = append(out.Types, api.TypeBind{N: n, T: x})
		}
	}
	for _, n := range rows {
		if x := modelApply(names, modelApply(s, rowType(open(n)))); !modelEqual(x, rowType(open(n))) {
			out.Rows = append(out.Rows, api.RowBind{N: n, R: x.Row})
		}
	}
	return modelFresh(out, rows)
}

// modelFresh gives fresh row variables their numbers: those that are not among the row variables of the equations.
func modelFresh(s api.Subst, rows []int) (api.Subst, api.Errno) {
	var all []api.Type
	for _, b := range s.Types {
		all = append(all, b.T)
	}
	for _, b := range s.Rows {
		all = append(all, rowType(b.R))
	}
	_, tails := modelVars(all...)
	tails = slices.DeleteFunc(tails, func(n int) bool { return slices.Contains(rows, n) })
	var numbers api.Subst
	for i, n := range tails {
		to := slices.Max(rows) + 1 + i
		if to > api.MaxInt {
			return api.Subst{}, api.ErrSize
		}
		numbers.Rows = append(numbers.Rows, api.RowBind{N: n, R: open(to)})
	}
	for i := range s.Types {
		s.Types[i].T = modelApply(numbers, s.Types[i].T)
	}
	for i := range s.Rows {
		s.Rows[i].R = modelApply(numbers, rowType(s.Rows[i].R)).Row
	}
	return s, api.OK
}

// modelFixed returns a type whose variables are constants: parameters, and labels of closed rows.
func modelFixed(x api.Type) api.Type {
	x = shallow(x)
	switch {
	case x.Kind == api.TVar:
		return api.Type{Kind: api.TParam, S: "\x00", N: x.N}
	case x.Kind == api.TFun && x.Row.Tail != -1:
		x.Row = closed(append(x.Row.Labels, api.Label{S: "\x00", N: x.Row.Tail})...)
	}
	for i, part := range x.L {
		x.L[i] = modelFixed(part)
	}
	return x
}

// modelFreed returns a type with variables instead of such constants.
func modelFreed(x api.Type) api.Type {
	x = shallow(x)
	if x.Kind == api.TParam && x.S == "\x00" {
		return tvar(x.N)
	}
	if i := slices.IndexFunc(x.Row.Labels, func(l api.Label) bool { return l.S == "\x00" }); i >= 0 {
		x.Row.Tail = x.Row.Labels[i].N
		x.Row.Labels = slices.Delete(x.Row.Labels, i, i+1)
	}
	for i, part := range x.L {
		x.L[i] = modelFreed(part)
	}
	return x
}

// modelInstance returns what Instance is to return for well-formed types: with the variables of the special one as constants, both are solved.
func modelInstance(general, special api.Type) (s api.Subst, is bool) {
	m := modelSolver{fresh: 1 << 40}
	if !m.solve(general, modelFixed(special)) {
		return api.Subst{}, false
	}
	types, rows := modelVars(general)
	slices.Sort(types)
	slices.Sort(rows)
	for _, n := range types {
		s.Types = append(s.Types, api.TypeBind{N: n, T: modelNormal(modelFreed(modelApply(m.s, tvar(n))))})
	}
	for _, n := range rows {
		s.Rows = append(s.Rows, api.RowBind{N: n, R: modelNormal(modelFreed(modelApply(m.s, rowType(open(n))))).Row})
	}
	return s, true
}
