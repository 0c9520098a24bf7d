package blame_test

import (
	"slices"

	"reprise/api"
	"reprise/decl"
	"reprise/infer"
	"reprise/syntax"
)

// The models follow the chapter word by word, without any care for time: all that is asked of a place is found by going there from the program.

// theHole is the hole, as a text of layer 2 says it.
func theHole() api.Expr {
	x, _, _ := syntax.ParseExpr("rec hole x = hole x in hole ()")
	return x
}

// partsOf returns the parts of a node.
func partsOf(x *api.Expr) (l []*api.Expr) {
	for i := range x.L {
		l = append(l, &x.L[i])
	}
	for i := range x.Arms {
		l = append(l, &x.Arms[i].Body)
	}
	return l
}

// nodeAt returns the node at a place, or nil if there is none.
func nodeAt(p *api.Program, place []int) *api.Expr {
	var l []*api.Expr
	for i := range p.Defs {
		l = append(l, &p.Defs[i].Body)
	}
	l = append(l, &p.Main)
	var x *api.Expr
	for _, i := range place {
		if i < 0 || i >= len(l) {
			return nil
		}
		x = l[i]
		l = partsOf(x)
	}
	return x
}

// allPlaces returns all places in a program, in order.
func allPlaces(p api.Program) (l [][]int) {
	var visit func(place []int)
	visit = func(place []int) {
		l = append(l, place)
		for i := range partsOf(nodeAt(&p, place)) {
			visit(append(slices.Clone(place), i))
		}
	}
	for i := range len(p.Defs) + 1 {
		visit([]int{i})
	}
	return l
}

// isValue reports whether an expression is a value.
func isValue(x api.Expr) bool {
	return slices.Contains([]api.Kind{api.Var, api.Int, api.Bool, api.Unit, api.Fun}, x.Kind) || x.Kind == api.Con && !slices.ContainsFunc(x.L, func(part api.Expr) bool { return !isValue(part) })
}

// isFixed reports whether a place is fixed.
func isFixed(p api.Program, place []int) bool {
	if !isValue(*nodeAt(&p, place)) {
		return false
	}
	last := len(place) - 1
	if last == 0 {
		return place[0] < len(p.Defs)
	}
	around := nodeAt(&p, place[:last])
	return around.Kind == api.Let && place[last] == 0 || around.Kind == api.Con && isFixed(p, place[:last])
}

// begins reports whether a place contains another one.
func begins(place, other []int) bool {
	return len(other) >= len(place) && slices.Equal(place, other[:len(place)])
}

// inAny reports whether one of some places contains a place.
func inAny(holes [][]int, place []int) bool {
	return slices.ContainsFunc(holes, func(hole []int) bool { return begins(hole, place) })
}

// openPlaces returns all open places, in order.
func openPlaces(p api.Program) (l [][]int) {
	for _, place := range allPlaces(p) {
		if !isFixed(p, place) {
			l = append(l, place)
		}
	}
	return l
}

// modelFilled returns a program that is filled at places.
func modelFilled(p api.Program, places ...[]int) api.Program {
	p = copied(p, false)
	for _, place := range places {
		*nodeAt(&p, place) = theHole()
	}
	return p
}

// errorOf returns the error of typing a program that is filled at places.
func errorOf(p api.Program, places ...[]int) api.Errno {
	_, _, e := infer.Infer(modelFilled(p, places...))
	return e
}

// modelFill returns what Fill is to return.
func modelFill(p api.Program, places [][]int) (api.Program, api.Errno) {
	if e := decl.Check(p); e != api.OK {
		return api.Program{}, e
	}
	for i, place := range places {
		switch {
		case nodeAt(&p, place) == nil:
			return api.Program{}, api.ErrNone
		case isFixed(p, place):
			return api.Program{}, api.ErrArg
		}
		for _, before := range places[:i] {
			if begins(before, place) || begins(place, before) {
				return api.Program{}, api.ErrTwice
			}
		}
	}
	return modelFilled(p, places...), api.OK
}

// modelSlice returns the holes of the slice, the core and the cures.
func modelSlice(p api.Program) (holes, core, cures [][]int, e api.Errno) {
	switch _, _, e := infer.Infer(p); e {
	case api.OK:
		return nil, nil, nil, api.ErrState
	case api.ErrType:
	default:
		return nil, nil, nil, e
	}
	for _, place := range openPlaces(p) {
		if !inAny(holes, place) && errorOf(p, append(slices.Clone(holes), place)...) == api.ErrType {
			holes = append(holes, place)
		}
		if errorOf(p, place) == api.OK {
			cures = append(cures, place)
		}
	}
	for _, place := range allPlaces(p) {
		if !inAny(holes, place) {
			core = append(core, place)
		}
	}
	return holes, core, cures, api.OK
}
