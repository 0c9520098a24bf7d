package syntax

import (
	"iter"
	"slices"

	"reprise/api"
)

// exprParts yields the parts of a node.
func exprParts(e api.Expr) iter.Seq[api.Expr] {
	return func(yield func(api.Expr) bool) {
		for _, part := range e.L {
			if !yield(part) {
				return
			}
		}
		for _, a := range e.Arms {
			if !yield(a.Body) {
				return
			}
		}
	}
}

// typeParts yields the parts of a type's node.
func typeParts(t api.Type) iter.Seq[api.Type] {
	return slices.Values(t.L)
}

// nodes yields the nodes of a tree, a node before its parts, in order, each with the number of nodes that it is within, itself included.
func nodes[T any](tree T, parts func(T) iter.Seq[T]) iter.Seq2[int, T] {
	return func(yield func(int, T) bool) {
		descend(tree, 1, parts, yield)
	}
}

// descend yields the nodes of a tree whose first node is at a level, and reports whether more of them are asked for.
func descend[T any](tree T, level int, parts func(T) iter.Seq[T], yield func(int, T) bool) bool {
	if !yield(level, tree) {
		return false
	}
	for part := range parts(tree) {
		if !descend(part, level+1, parts, yield) {
			return false
		}
	}
	return true
}

// measure returns the size and the depth of a tree. It goes no further than to where one of them is above its limit: what is no tree of a program may be of any size.
func measure[T any](nodes iter.Seq2[int, T]) (size, depth int) {
	for level := range nodes {
		size++
		depth = max(depth, level)
		if size > api.MaxSize || depth > api.MaxDepth {
			break
		}
	}
	return size, depth
}

// measured returns the size and the depth of a well-formed expression, or the first error of another one.
func measured(e api.Expr) (size, depth int, err api.Errno) {
	size, depth = measure(nodes(e, exprParts))
	if size > api.MaxSize || depth > api.MaxDepth {
		return 0, 0, api.ErrSize
	}
	if err := firstError(nodes(e, exprParts), checkNode); err != api.OK {
		return 0, 0, err
	}
	return size, depth, api.OK
}

// firstError returns the error of the first element that has one.
func firstError[T any](l iter.Seq2[int, T], check func(T) api.Errno) api.Errno {
	for _, x := range l {
		if e := check(x); e != api.OK {
			return e
		}
	}
	return api.OK
}

// nest returns the nested Let of a program, which shares memory with it.
func nest(p api.Program) api.Expr {
	whole := p.Main
	for _, d := range slices.Backward(p.Defs) {
		whole = api.Expr{Kind: api.Let, Names: []string{d.Name}, L: []api.Expr{d.Body, whole}}
	}
	return whole
}

// clone returns a copy of an expression that shares no memory with it.
func clone(e api.Expr) api.Expr {
	e.Names = slices.Clone(e.Names)
	e.L = slices.Clone(e.L)
	for i, part := range e.L {
		e.L[i] = clone(part)
	}
	e.Arms = slices.Clone(e.Arms)
	for i, a := range e.Arms {
		e.Arms[i] = api.Arm{Op: a.Op, Names: slices.Clone(a.Names), Body: clone(a.Body)}
	}
	return e
}
