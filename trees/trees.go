// Package trees has what all layers do with trees in the same way: it goes over parts and nodes, finds first errors, and copies.
package trees

import (
	"iter"
	"slices"

	"reprise/api"
)

// ExprParts yields the parts of a node.
func ExprParts(e api.Expr) iter.Seq[api.Expr] {
	l, arms := e.L, e.Arms
	return func(yield func(api.Expr) bool) {
		for _, part := range l {
			if !yield(part) {
				return
			}
		}
		for _, a := range arms {
			if !yield(a.Body) {
				return
			}
		}
	}
}

// TypeParts yields the parts of a type's node.
func TypeParts(t api.Type) iter.Seq[api.Type] { return slices.Values(t.L) }

// Nodes yields the nodes of a tree, a node before its parts, in order, each with the number of nodes that it is within, itself included.
func Nodes[T any](tree T, parts func(T) iter.Seq[T]) iter.Seq2[int, T] {
	return func(yield func(int, T) bool) {
		level, more := 0, true
		var visit func(x T) bool
		visit = func(x T) bool {
			level++
			more = yield(level, x)
			if more {
				parts(x)(visit)
			}
			level--
			return more
		}
		visit(tree)
	}
}

// FirstError returns the error of the first element that has one.
func FirstError[T any](l iter.Seq2[int, T], check func(T) api.Errno) api.Errno {
	for _, x := range l {
		if e := check(x); e != api.OK {
			return e
		}
	}
	return api.OK
}

// Clone returns a copy of an expression that shares no memory with it.
func Clone(e api.Expr) api.Expr {
	e.Names = slices.Clone(e.Names)
	e.L = cloned(e.L, Clone)
	e.Arms = cloned(e.Arms, func(a api.Arm) api.Arm {
		return api.Arm{Op: a.Op, Names: slices.Clone(a.Names), Body: Clone(a.Body)}
	})
	return e
}

// CloneType returns a copy of a type that shares no memory with it.
func CloneType(t api.Type) api.Type {
	t.L = cloned(t.L, CloneType)
	t.Row.Labels = slices.Clone(t.Row.Labels)
	return t
}

// CloneProgram returns a copy of a program that shares no memory with it.
func CloneProgram(p api.Program) api.Program {
	return api.Program{
		Data: cloned(p.Data, func(d api.Data) api.Data {
			return api.Data{Name: d.Name, Params: slices.Clone(d.Params), Cons: cloned(d.Cons, func(c api.Cons) api.Cons {
				return api.Cons{Name: c.Name, Args: cloned(c.Args, CloneType)}
			})}
		}),
		Effects: cloned(p.Effects, func(f api.Effect) api.Effect {
			return api.Effect{Name: f.Name, Ops: cloned(f.Ops, func(o api.Op) api.Op {
				return api.Op{Name: o.Name, Arg: CloneType(o.Arg), Res: CloneType(o.Res), Once: o.Once}
			})}
		}),
		Defs: cloned(p.Defs, func(d api.Def) api.Def { return api.Def{Name: d.Name, Body: Clone(d.Body)} }),
		Main: Clone(p.Main),
	}
}

// cloned returns a list of copies.
func cloned[T any](l []T, clone func(T) T) []T {
	l = slices.Clone(l)
	for i, x := range l {
		l[i] = clone(x)
	}
	return l
}

// IsValue reports whether an expression is a value of layer 6, whose type is generalized where it is defined.
func IsValue(x api.Expr) bool {
	switch x.Kind {
	case api.Con:
		for _, part := range x.L {
			if !IsValue(part) {
				return false
			}
		}
		fallthrough
	case api.Var, api.Int, api.Bool, api.Unit, api.Fun:
		return true
	}
	return false
}
