package blame

import (
	"slices"

	"reprise/api"
)

// needFillable leaves the call at the first of some places at which the program cannot be filled.
func (p program) needFillable(places [][]int) {
	for i, place := range places {
		need(p.at(place).open(), api.ErrArg)
		for _, other := range places[:i] {
			need(!contains(other, place) && !contains(place, other), api.ErrTwice)
		}
	}
}

// filled returns the program with the hole at some places, none of which contains another one. It shares memory with the program, which stays as it is.
func (p program) filled(places [][]int) api.Program {
	out := p.Program
	out.Defs = slices.Clone(p.Defs)
	bodies := sorted(places, len(p.Defs)+1)
	for i, d := range p.Defs {
		out.Defs[i].Body = filledExpr(d.Body, bodies[i])
	}
	out.Main = filledExpr(p.Main, bodies[len(p.Defs)])
	return out
}

// filledExpr returns an expression with the hole where some paths lead.
func filledExpr(x api.Expr, paths [][]int) api.Expr {
	switch {
	case len(paths) == 0:
		return x
	case len(paths[0]) == 0:
		return Hole()
	}
	parts := sorted(paths, len(x.L)+len(x.Arms))
	x.L, x.Arms = slices.Clone(x.L), slices.Clone(x.Arms)
	for i, part := range x.L {
		x.L[i] = filledExpr(part, parts[i])
	}
	for i, a := range x.Arms {
		x.Arms[i].Body = filledExpr(a.Body, parts[len(x.L)+i])
	}
	return x
}

// sorted returns, for each of n parts, the paths that lead on from there.
func sorted(paths [][]int, n int) [][][]int {
	parts := make([][][]int, n)
	for _, path := range paths {
		i := path[0]
		parts[i] = append(parts[i], path[1:])
	}
	return parts
}
