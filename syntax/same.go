package syntax

import (
	"slices"

	"reprise/api"
)

// levels is how many levels of trees that are compared are left. Without it the comparison of lists that contain themselves, which make no trees, would not end.
type levels int

// mostLevels is the number of levels up to which the document promises anything.
const mostLevels levels = 1 << 16

// same reports whether two expressions are equal.
func (left levels) same(a, b api.Expr) bool {
	below := left - 1
	return left > 0 && a.Kind == b.Kind && a.N == b.N && a.S == b.S && a.T == b.T && slices.Equal(a.Names, b.Names) &&
		slices.EqualFunc(a.L, b.L, below.same) && slices.EqualFunc(a.Arms, b.Arms, below.sameArm)
}

// sameArm reports whether two arms are equal.
func (left levels) sameArm(a, b api.Arm) bool {
	return a.Op == b.Op && slices.Equal(a.Names, b.Names) && left.same(a.Body, b.Body)
}

// sameType reports whether two types are equal.
func (left levels) sameType(a, b api.Type) bool {
	below := left - 1
	return left > 0 && a.Kind == b.Kind && a.N == b.N && a.S == b.S && slices.EqualFunc(a.L, b.L, below.sameType) &&
		slices.Equal(a.Row.Labels, b.Row.Labels) && a.Row.Tail == b.Row.Tail
}
