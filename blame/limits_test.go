package blame_test

import (
	"slices"
	"strings"
	"testing"

	"reprise/api"
	"reprise/blame"
	"reprise/decl"
	"reprise/syntax"
)

// size returns the number of nodes of the nested Let of a program.
func size(p api.Program) int {
	x, _ := syntax.Whole(p)
	return syntax.Size(x)
}

// value returns a value of n nodes, of little depth.
func value(n int) api.Expr {
	switch {
	case n == 1:
		return api.Expr{Kind: api.Int}
	case n == 2:
		return api.Expr{Kind: api.Con, S: "Some", L: []api.Expr{value(1)}}
	}
	return api.Expr{Kind: api.Con, S: "Pair", L: []api.Expr{value((n - 1) / 2), value(n / 2)}}
}

// within returns a program behind a definition with which it has n nodes. All places of the definition are fixed.
func within(n int, p api.Program) api.Program {
	p.Defs = slices.Insert(p.Defs, 0, api.Def{Name: "big", Body: value(n - size(p) - 1)})
	return p
}

// P7.2, R7: of how large a program is once it is filled, nothing is asked.
func TestFillTooLarge(t *testing.T) {
	p := within(api.MaxSize, parsed(t, "main 1 + 2"))
	got, e := blame.Fill(p, places("10 11"))
	if want := modelFilled(p, places("10 11")...); e != api.OK || !same(got, want) || decl.Check(p) != api.OK || decl.Check(got) != api.ErrSize {
		t.Errorf("%d; of the program filled %d", e, decl.Check(got))
	}
	deep := parsed(t, "main "+strings.Repeat("1 + (", api.MaxDepth-2)+"1 + 2"+strings.Repeat(")", api.MaxDepth-2))
	leaf := append([]int{0}, slices.Repeat([]int{1}, api.MaxDepth-1)...)
	got, e = blame.Fill(deep, [][]int{leaf})
	if want := modelFilled(deep, leaf); e != api.OK || !same(got, want) || decl.Check(deep) != api.OK || decl.Check(got) != api.ErrSize {
		t.Errorf("%d; of the program filled %d", e, decl.Check(got))
	}
	if got, e := blame.Fill(deep, [][]int{append(leaf, 0)}); e != api.ErrNone || !same(got, api.Program{}) {
		t.Errorf("%v, %d", got, e)
	}
}

// P7.3, P7.4, P7.6: where a program would get too large it is not filled: such a place is no hole, and no cure.
func TestLargestPrograms(t *testing.T) {
	for _, c := range []struct {
		n                  int
		slice, core, cures string
	}{
		{api.MaxSize + 1, "", "", ""}, {api.MaxSize, "", "1 10 100 101 11 110 111", "1"}, {api.MaxSize - 3, "", "1 10 100 101 11 110 111", "1"}, {api.MaxSize - 4, "10", "1 11 110 111", "1 11"}, {api.MaxSize - 5, "10", "1 11 110 111", "1 11"}, {api.MaxSize - 6, "10", "1 11 110 111", "1 11 111"}, {api.MaxSize - 9, "10", "1 11 110 111", "1 11 111"}, {api.MaxSize - 10, "10 110", "1 11 111", "1 11 111"},
	} {
		p := within(c.n, parsed(t, "main (1 + 2) * (3 + true)"))
		holes, core, cures, e := explain(t, p)
		if c.core == "" {
			if e != api.ErrSize {
				t.Errorf("%d nodes: %d", c.n, e)
			}
			continue
		}
		core = slices.DeleteFunc(core, func(place []int) bool { return place[0] == 0 })
		if e != api.OK || !same(holes, places(c.slice)) || !same(core, places(c.core)) || !same(cures, places(c.cures)) {
			t.Errorf("%d nodes: %v; %v; %v; %d", c.n, holes, core, cures, e)
		}
	}
}

// P7.3, P7.4, P7.6: so where it would get too deep.
func TestDeepestPrograms(t *testing.T) {
	t.Parallel()
	for _, depth := range []int{api.MaxDepth - 2, api.MaxDepth} {
		p := parsed(t, "main "+strings.Repeat("1 + (", depth-2)+"1 + true"+strings.Repeat(")", depth-2))
		holes, e := blame.Slice(p)
		core, e2 := blame.Core(p)
		cures, e3 := blame.Cures(p)
		// A hole is three nodes deep: the node at its place is at most that deep less two.
		left := min(depth-1, api.MaxDepth-3)
		if e != api.OK || e2 != e || e3 != e || len(holes) != left || len(core) != 2*depth-1-left {
			t.Errorf("depth %d: %d holes; %d in the core; %d", depth, len(holes), len(core), e)
		}
		if want := min(depth, api.MaxDepth-2); len(cures) != want {
			t.Errorf("depth %d: %d cures; want %d", depth, len(cures), want)
		}
	}
}

// uses returns an expression in which all types of n uses of a variable are the same.
func uses(n int, x string) string {
	if n == 1 {
		return x
	}
	return "(if true then " + uses(n/2, x) + " else " + uses(n-n/2, x) + ")"
}

// P7.3, P7.4: a hole can make more variables than there is room for, or have something solved that is too large, where the program itself has none of it; what is too large by itself has no slice.
func TestLargeTypes(t *testing.T) {
	t.Parallel()
	found, tooLarge := map[api.Errno]int{}, 0
	var programs []api.Program
	for n := 84; n <= 100; n += 2 {
		// 14 uses of f, 200 variables each, and one of g bind most of as many variables as there is room for.
		text := "main let f = " + strings.Repeat("fun a -> ", 100) + "1 in let g = " + strings.Repeat("fun a -> ", n) + "1 in let u = Pair[" + uses(15, "f") + ", " + uses(2, "g") + "] in let y = 1 in (y + 1) + true"
		programs = append(programs, parsed(t, text))
	}
	for n := 8; n <= 12; n++ {
		programs = append(programs, parsed(t, "main Pair[1 + true, "+doubled(n)+"]"), parsed(t, "main Pair["+doubled(n)+", 1 + true]"), parsed(t, "def d = 1 + true main let u = 1 in "+doubled(n)), parsed(t, "main let u = "+doubled(n)+" in let v = 1 in v + true"))
	}
	for _, p := range programs {
		_, _, _, e := explain(t, p)
		found[e]++
		for _, place := range openPlaces(p) {
			if e == api.OK && errorOf(p, place) == api.ErrSize {
				tooLarge++
			}
		}
	}
	if found[api.OK] < 10 || found[api.ErrSize] < 4 || tooLarge < 10 {
		t.Error(found, tooLarge)
	}
}

// sum returns the sum of expressions, of little depth.
func sum(l []string) string {
	if len(l) == 1 {
		return l[0]
	}
	return "(" + sum(l[:len(l)/2]) + " + " + sum(l[len(l)/2:]) + ")"
}

// P7.3, P7.4, P7.6, P7.7, P0.6: an error in the midst of the largest program is found, with little around it.
func TestErrorInLargeProgram(t *testing.T) {
	t.Parallel()
	const n = api.MaxSize / 2
	for _, at := range []int{0, 1, n / 2, n - 1} {
		l := slices.Repeat([]string{"1"}, n)
		l[at] = "true"
		p := parsed(t, "main "+sum(l))
		holes, e := blame.Slice(p)
		core, e2 := blame.Core(p)
		cures, e3 := blame.Cures(p)
		if e != api.OK || e2 != e || e3 != e || len(holes) < 8 || len(holes) > 12 || len(core) < 11 || len(core) > 20 || len(cures) < 9 || len(cures) > 12 {
			t.Errorf("at %d: %d holes, %d; %d in the core, %d; %d cures, %d", at, len(holes), e, len(core), e2, len(cures), e3)
		}
		if e := typing(filled(t, p, holes...)); e != api.ErrType {
			t.Errorf("at %d: its slice has %d", at, e)
		}
		for _, place := range core {
			if e := errorOf(p, place); (e == api.OK) != slices.ContainsFunc(cures, func(o []int) bool { return slices.Equal(o, place) }) {
				t.Errorf("at %d: filled at %v: %d; %v", at, place, e, cures)
			}
		}
	}
}
