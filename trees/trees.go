// Package trees has what all layers do with trees in the same way: it goes over parts and nodes, finds first errors, and copies.
package trees

import (
	"iter"
	"slices"

	"reprise/api"
)

// ExprParts yields the parts of a node.
func ExprParts(e api.Expr) iter.Seq[api.Expr] {
	return func(yield func(api.Expr) bool) {
		for _, part := range e.L {
			if !yield(part) {
				return
			}
		}
		for _, a := range e.Arms {
			if !yield(a.Body) {
				return
			}
		}
	}
}

// TypeParts yields the parts of a type's node.
func TypeParts(t api.Type) iter.Seq[api.Type] { return slices.Values(t.L) }

// Nodes yields the nodes of a tree, a node before its parts, in order, each with the number of nodes that it is within, itself included.
func Nodes[T any](tree T, parts func(T) iter.Seq[T]) iter.Seq2[int, T] {
	return func(yield func(int, T) bool) {
		descend(tree, 1, parts, yield)
	}
}

// descend yields the nodes of a tree whose first node is at a level, and reports whether more of them are asked for.
func descend[T any](tree T, level int, parts func(T) iter.Seq[T], yield func(int, T) bool) bool {
	if !yield(level, tree) {
		return false
	}
	for part := range parts(tree) {
		if !descend(part, level+1, parts, yield) {
			return false
		}
	}
	return true
}

// FirstError returns the error of the first element that has one.
func FirstError[T any](l iter.Seq2[int, T], check func(T) api.Errno) api.Errno {
	for _, x := range l {
		if e := check(x); e != api.OK {
			return e
		}
	}
	return api.OK
}

// Clone returns a copy of an expression that shares no memory with it.
func Clone(e api.Expr) api.Expr {
	e.Names = slices.Clone(e.Names)
	e.L = slices.Clone(e.L)
	for i, part := range e.L {
		e.L[i] = Clone(part)
	}
	e.Arms = slices.Clone(e.Arms)
	for i, a := range e.Arms {
		e.Arms[i] = api.Arm{Op: a.Op, Names: slices.Clone(a.Names), Body: Clone(a.Body)}
	}
	return e
}
