package syntax

import (
	"iter"
	"slices"

	"reprise/api"
	"reprise/trees"
)

// measure returns the size and the depth of a tree. It goes no further than to where one of them is above its limit: what is no tree of a program may be of any size.
func measure[T any](nodes iter.Seq2[int, T]) (size, depth int) {
	for level := range nodes {
		size++
		depth = max(depth, level)
		if size > api.MaxSize || depth > api.MaxDepth {
			break
		}
	}
	return size, depth
}

// measured returns the size and the depth of a well-formed expression, or the first error of another one.
func measured(e api.Expr) (size, depth int, err api.Errno) {
	size, depth = measure(trees.Nodes(e, trees.ExprParts))
	if size > api.MaxSize || depth > api.MaxDepth {
		return 0, 0, api.ErrSize
	}
	if err := trees.FirstError(trees.Nodes(e, trees.ExprParts), checkNode); err != api.OK {
		return 0, 0, err
	}
	return size, depth, api.OK
}

// nest returns the nested Let of a program, which shares memory with it.
func nest(p api.Program) api.Expr {
	whole := p.Main
	for _, d := range slices.Backward(p.Defs) {
		whole = api.Expr{Kind: api.Let, Names: []string{d.Name}, L: []api.Expr{d.Body, whole}}
	}
	return whole
}
