package rows_test

import (
	"slices"
	"testing"

	"reprise/api"
	"reprise/rows"
)

// solveCases has equations with their canonical solutions.
func solveCases() map[string]string {
	return map[string]string{
		"": "", "Int = Int": "", "a = a": "", "List = List": "", "List a = List a": "", "Int -> <A> Bool = Int -> <A> Bool": "", "t0 = t0": "", "Unit -> <| r0> Unit = Unit -> <| r0> Unit": "", "Unit -> <F, E> Unit = Unit -> <E, F> Unit": "",
		// Types.
		"t0 = Int": "t0: Int", "Int = t0": "t0: Int", "t3 = t1": "t3: t1", "t1 = t3": "t3: t1", "t1 -> t1 = t0 -> t2": "t1: t0; t2: t0", "t2 = t1; t1 = t0": "t1: t0; t2: t0", "t0 = t1; t2 = t3": "t1: t0; t3: t2", "t5 = t4; t3 = t4; t9 = t5": "t4: t3; t5: t3; t9: t3", "t0 = List t1; t1 = Int": "t0: List Int; t1: Int", "t1 = Int; t0 = List t1": "t0: List Int; t1: Int", "t0 = List t1; t0 = List Int": "t0: List Int; t1: Int", "t0 = List t5; t0 = List t2": "t0: List t2; t5: t2", "P t0 t1 = P t1 Int": "t0: Int; t1: Int", "P t0 t1 t2 = P (List t1) (List t2) a": "t0: List (List a); t1: List a; t2: a", "t0 -> t1 = t2": "t2: t0 -> t1", "P Int Int Int t0 = P Int Int Int Bool": "t0: Bool", "t0 = t1 -> t1; t1 = t2 -> t2": "t0: (t2 -> t2) -> t2 -> t2; t1: t2 -> t2", "t0 = t1; t1 = t0": "t1: t0", "List t0 = t1; t1 = List t0": "t1: List t0", "t7 = t9; t9 = Int -> t7; Int = Int": "no",
		// Rows.
		"t0 -> <E | r0> Int = Bool -> <F, E | r1> t1": "t0: Bool; t1: Int; r0: <F | r1>", "Unit -> <E | r0> Unit = Unit -> <F | r1> Unit": "r0: <F | r2>; r1: <E | r2>", "Unit -> <E, E> Unit = Unit -> <E | r4> Unit": "r4: <E>", "Unit -> <| r3> Unit = Unit -> <| r1> Unit": "r3: <| r1>", "Unit -> <| r1> Unit = Unit -> <| r3> Unit": "r3: <| r1>", "Unit -> <E> Unit = Unit -> <E | r0> Unit": "r0: <>", "Unit -> Unit = Unit -> <| r0> Unit": "r0: <>", "Unit -> <E | r0> Unit = Unit -> <E | r0> Unit": "", "Unit -> <E, E@1 | r0> Unit = Unit -> <E@2 | r1> Unit": "r0: <E@2 | r2>; r1: <E, E@1 | r2>", "Unit -> <E | r5> Unit = Unit -> <E, F, E | r2> Unit": "r5: <E, F | r2>", "Unit -> <E, F, F, G> Unit = Unit -> <F, G | r0> Unit": "r0: <E, F>", "Unit -> <B, A | r0> Unit = Unit -> <D, C | r1> Unit": "r0: <C, D | r2>; r1: <A, B | r2>",
		"Unit -> <E | r0> Unit = Unit -> <| r1> Unit; Unit -> <E | r0> Unit = Unit -> <F | r2> Unit": "r0: <F | r3>; r1: <E, F | r3>; r2: <E | r3>", "Unit -> <E | r0> Unit = Unit -> <F | r1> Unit; Unit -> <| r0> Unit = Unit -> <F | r2> Unit": "r0: <F | r2>; r1: <E | r2>", "Unit -> <E | r0> Unit = Unit -> <F | r1> Unit; Unit -> <| r0> Unit = Unit -> <F> Unit": "r0: <F>; r1: <E>", "Unit -> <E | r7> Unit = Unit -> <F | r1> Unit; t0 = Unit -> <E | r7> Unit": "t0: Unit -> <E, F | r8> Unit; r1: <E | r8>; r7: <F | r8>", "Unit -> <| r0> Unit = Unit -> <| r1> Unit; Unit -> <| r1> Unit = Unit -> <| r2> Unit; Unit -> <| r2> Unit = Unit -> <| r0> Unit": "r1: <| r0>; r2: <| r0>", "Unit -> <A | r0> Unit = Unit -> <| r1> Unit; Unit -> <B | r1> Unit = Unit -> <| r2> Unit; Unit -> <C | r2> Unit = Unit -> <A, B, C> Unit": "r0: <>; r1: <A>; r2: <A, B>",
		// Fresh variables are numbered in the order of the bindings.
		"Unit -> <A | r0> Unit = Unit -> <B | r1> Unit; Unit -> <A | r2> Unit = Unit -> <B | r3> Unit": "r0: <B | r4>; r1: <A | r4>; r2: <B | r5>; r3: <A | r5>", "Unit -> <A | r0> Unit = Unit -> <B | r1> Unit; Unit -> <A | r2> Unit = Unit -> <B | r3> Unit; t0 = Unit -> <| r2> Unit": "t0: Unit -> <B | r4> Unit; r0: <B | r5>; r1: <A | r5>; r2: <B | r4>; r3: <A | r4>", "Unit -> <A | r0> Unit = Unit -> <B | r1> Unit; Unit -> <A | r2> Unit = Unit -> <B | r3> Unit; Unit -> <A | r4> Unit = Unit -> <B | r5> Unit; t0 = (Unit -> <| r4> Unit) -> <| r2> Unit -> <| r0> Unit": "t0: (Unit -> <B | r6> Unit) -> <B | r7> Unit -> <B | r8> Unit; r0: <B | r8>; r1: <A | r8>; r2: <B | r7>; r3: <A | r7>; r4: <B | r6>; r5: <A | r6>",
		"Unit -> <A | r0> Unit = Unit -> <B | r9> Unit; Unit -> <A | r2> Unit = Unit -> <B | r1> Unit": "r0: <B | r10>; r1: <A | r11>; r2: <B | r11>; r9: <A | r10>", "t0 = Unit -> <| r50> Unit; Unit -> <A | r0> Unit = Unit -> <B | r1> Unit": "t0: Unit -> <| r50> Unit; r0: <B | r51>; r1: <A | r51>",
		// Both at a time.
		"(t0 -> <A | r0> t1) -> <| r0> t0 = t2 -> <B | r1> Int; t1 = t2": "no", "(t0 -> <A | r0> t1) -> <| r0> t0 = t2 -> <B | r1> Int": "t0: Int; t2: Int -> <A, B | r1> t1; r0: <B | r1>",
		// No solution.
		"Int = Bool": "no", "Int = Unit": "no", "Int = List": "no", "a = b": "no", "a = Int": "no", "List a = List b": "no", "List Int = Tree Int": "no", "List Int = List": "no", "P Int Int = P Int": "no", "P Int Bool = P Bool Int": "no", "P Int Int Int Int = P Int Int Int Bool": "no", "Int -> Int = Int": "no", "Int -> Int = P Int Int": "no", "t0 = List t0": "no", "t0 = t0 -> Int": "no", "t0 = Int -> t0": "no", "t0 -> t1 = t1 -> List t0": "no", "t0 = List t1; t1 = List t0": "no", "t0 = P t1 t2; t2 = List t3; t3 = List t0": "no", "P t0 t0 = P (List t1) (List (List t1))": "no", "t0 = Int; t0 = Bool": "no", "t0 = Int; t1 = Bool; t0 = t1": "no", "t0 = t1; t1 = List t2; t2 = t0": "no",
		"Unit -> <E | r0> Unit = Unit -> <F | r0> Unit": "no", "Unit -> <E | r0> Unit = Unit -> <| r0> Unit": "no", "Unit -> <E> Unit = Unit -> Unit": "no", "Unit -> <E, E> Unit = Unit -> <E> Unit": "no", "Unit -> <E, E, F> Unit = Unit -> <E, F, F> Unit": "no", "Unit -> <E@1 | r0> Unit = Unit -> <E> Unit": "no", "Unit -> <E, F | r0> Unit = Unit -> <E> Unit": "no", "Unit -> <E> Unit = Unit -> <E, F | r0> Unit": "no", "Unit -> <E | r0> Unit = Unit -> <| r1> Unit; Unit -> <F | r1> Unit = Unit -> <| r0> Unit": "no", "Unit -> <| r0> Unit = Unit -> <E> Unit; Unit -> <| r0> Unit = Unit -> <F> Unit": "no", "Unit -> <| r0> Unit = Unit -> Unit; Unit -> <| r1> Unit = Unit -> <E | r0> Unit; Unit -> <| r1> Unit = Unit -> Unit": "no", "Unit -> <A | r0> Unit = Unit -> <B | r1> Unit; Unit -> <A | r1> Unit = Unit -> <B | r0> Unit": "no",
	}
}

// P5.3, P5.5, P5.7: equations and their canonical solutions, in each order, by the model too.
func TestSolve(t *testing.T) {
	for text, want := range solveCases() {
		l := equations(t, text)
		wantErr, wantSubst := api.OK, api.Subst{}
		if want == "no" {
			wantErr = api.ErrType
		} else {
			wantSubst = subst(t, want)
		}
		for range 2 {
			for range len(l) + 1 {
				got, e := rows.Solve(l)
				model, f := modelSolve(l)
				if e != wantErr || !same(got, wantSubst) || f != wantErr || !same(model, wantSubst) {
					t.Errorf("Solve(%s) = %s, %d, by the model %s, %d; want %s", shownPairs(l), shownSubst(got), e, shownSubst(model), f, want)
				}
				if len(l) == 1 {
					if s, e := rows.Unify(l[0].A, l[0].B); e != wantErr || !same(s, wantSubst) {
						t.Errorf("Unify(%s) = %s, %d; want %s", text, shownSubst(s), e, want)
					}
				}
				if len(l) > 0 {
					l = append(l[1:], l[0])
				}
			}
			for i, p := range l {
				l[i] = api.Pair{A: p.B, B: p.A}
			}
		}
	}
}

// P5.3, R1: which error comes first.
func TestSolveErrors(t *testing.T) {
	bad, name, clash := api.Type{Kind: -1}, data("x"), api.Pair{A: tint, B: tbool}
	large := []api.Pair{{A: tvar(0), B: wide(api.MaxSize, tint)}, {A: tvar(1), B: data("P", tvar(0), tvar(0))}}
	many := slices.Repeat([]api.Pair{{A: bad, B: bad}}, api.MaxSize+1)
	for i, c := range []struct {
		l    []api.Pair
		want api.Errno
	}{
		{many, api.ErrSize}, {many[1:], api.ErrArg}, {slices.Repeat([]api.Pair{clash}, api.MaxSize+1), api.ErrSize}, {slices.Repeat([]api.Pair{clash}, api.MaxSize), api.ErrType}, {slices.Repeat([]api.Pair{{A: tint, B: tint}}, api.MaxSize), api.OK}, {slices.Repeat([]api.Pair{{A: tint, B: tint}}, api.MaxSize+1), api.ErrSize},
		{[]api.Pair{{A: bad, B: name}}, api.ErrArg}, {[]api.Pair{{A: name, B: bad}}, api.ErrName}, {[]api.Pair{{A: tint, B: name}, {A: bad, B: tint}}, api.ErrName}, {[]api.Pair{{A: tint, B: tint}, {A: bad, B: tint}, {A: name, B: tint}}, api.ErrArg}, {[]api.Pair{clash, {A: tint, B: name}}, api.ErrName}, {append(slices.Clone(large), api.Pair{A: tint, B: name}), api.ErrName}, {[]api.Pair{{A: endless(), B: bad}}, api.ErrSize},
		{large, api.ErrSize}, {append(slices.Clone(large), clash), api.ErrType}, {append([]api.Pair{clash}, large...), api.ErrType}, {append(slices.Clone(large), api.Pair{A: tvar(2), B: data("List", tvar(2))}), api.ErrType}, {append(slices.Clone(large), api.Pair{A: rowType(closed()), B: rowType(closed(labels(1)...))}), api.ErrType}, {append(slices.Clone(large), api.Pair{A: rowType(open(api.MaxInt, labels(1)...)), B: rowType(open(0, labels(2)[1:]...))}), api.ErrSize},
	} {
		if s, e := rows.Solve(c.l); e != c.want || !same(s, api.Subst{}) {
			t.Errorf("%d: Solve = %s, %d; want %d", i, shownSubst(s), e, c.want)
		}
	}
}

// P5.3, R7: how large what parts of equations stand for may be, wherever it occurs.
func TestSolveLimits(t *testing.T) {
	nested := func(n int) api.Type { return deep(n, tint) }
	row := func(tail, n int) api.Type { return rowType(open(tail, labels(n)...)) }
	for i, c := range []struct {
		l    []api.Pair
		want api.Errno
	}{
		{[]api.Pair{{A: tvar(0), B: wide(1000, tint)}, {A: tvar(1), B: data("P", tvar(0), tvar(0), wide(999, tint))}}, api.OK}, {[]api.Pair{{A: tvar(0), B: wide(1000, tint)}, {A: tvar(1), B: data("P", tvar(0), tvar(0), wide(1000, tint))}}, api.ErrSize}, {[]api.Pair{{A: tvar(0), B: wide(1500, tint)}, {A: data("P", tvar(0), tvar(0)), B: data("P", tvar(1), tvar(2))}}, api.ErrSize}, {[]api.Pair{{A: data("P", tvar(0), tvar(0)), B: data("P", tvar(1), wide(1500, tint))}}, api.ErrSize}, {[]api.Pair{{A: tvar(0), B: wide(api.MaxSize, tint)}, {A: tvar(1), B: wide(api.MaxSize, tint)}}, api.OK},
		{[]api.Pair{{A: tvar(0), B: nested(99)}, {A: tvar(1), B: deep(100, tvar(0))}}, api.OK}, {[]api.Pair{{A: tvar(0), B: nested(99)}, {A: tvar(1), B: deep(101, tvar(0))}}, api.ErrSize}, {[]api.Pair{{A: deep(101, tvar(0)), B: deep(101, tvar(1))}, {A: tvar(1), B: nested(99)}}, api.ErrSize}, {[]api.Pair{{A: tvar(1), B: data("P", tvar(0), deep(101, tvar(0)))}, {A: tvar(0), B: nested(99)}}, api.ErrSize}, {[]api.Pair{{A: tvar(0), B: nested(199)}}, api.OK}, {[]api.Pair{{A: deep(199, tvar(0)), B: deep(199, tvar(1))}}, api.OK},
		{[]api.Pair{{A: row(0, 0), B: rowType(closed(labels(20)...))}, {A: tvar(0), B: row(0, 4)}}, api.OK}, {[]api.Pair{{A: row(0, 0), B: rowType(closed(labels(20)...))}, {A: tvar(0), B: row(0, 5)}}, api.ErrSize}, {[]api.Pair{{A: row(0, 0), B: row(1, 20)}, {A: row(2, 0), B: row(0, 4)}}, api.OK}, {[]api.Pair{{A: row(0, 0), B: row(1, 20)}, {A: row(2, 0), B: row(0, 5)}}, api.ErrSize}, {[]api.Pair{{A: row(0, 24), B: rowType(open(1, api.Label{S: "F"}))}}, api.ErrSize}, {[]api.Pair{{A: row(0, 23), B: rowType(open(1, api.Label{S: "F"}))}}, api.OK}, {[]api.Pair{{A: data("List", row(0, 24)), B: data("List", rowType(open(1, api.Label{S: "F"})))}}, api.ErrSize},
		{[]api.Pair{{A: row(api.MaxInt-1, 1), B: rowType(open(1, api.Label{S: "F"}))}}, api.OK}, {[]api.Pair{{A: row(api.MaxInt, 1), B: rowType(open(1, api.Label{S: "F"}))}}, api.ErrSize}, {[]api.Pair{{A: row(api.MaxInt, 0), B: rowType(open(1, api.Label{S: "F"}))}}, api.OK}, {[]api.Pair{{A: row(api.MaxInt-1, 1), B: rowType(open(1, api.Label{S: "F"}))}, {A: row(2, 1), B: rowType(open(3, api.Label{S: "F"}))}}, api.ErrSize}, {[]api.Pair{{A: row(api.MaxInt, 1), B: rowType(open(1, api.Label{S: "F"}))}, {A: row(1, 0), B: row(2, 1)}}, api.OK},
		{[]api.Pair{{A: tvar(api.MaxInt), B: tvar(api.MaxInt - 1)}}, api.OK},
	} {
		got, e := rows.Solve(c.l)
		model, f := modelSolve(c.l)
		if e != c.want || f != c.want || !same(got, model) {
			t.Errorf("%d: Solve = %s, %d, by the model %s, %d; want %d", i, shownSubst(got), e, shownSubst(model), f, c.want)
		}
	}
}

// doubling returns equations by which a variable stands for a pair of the next one, n times, each pair so many pairs deep, but for the first one.
func doubling(first, from, n, depth int) (l []api.Pair) {
	pair := func(x api.Type) api.Type { return data("P", x, x) }
	for i := range n {
		x := tvar(from + i + 1)
		for range depth {
			x = pair(x)
		}
		if i == 0 {
			for range first {
				x = pair(x)
			}
		}
		l = append(l, api.Pair{A: tvar(from + i), B: pair(x)})
	}
	return l
}

// P5.3, P0.6: types that would be far too large are told apart, and found to be too large, in little time.
func TestSolveHugeTypes(t *testing.T) {
	far := 100000
	equal := []api.Pair{{A: tvar(0), B: tvar(far)}}
	clash := []api.Pair{{A: tvar(1000), B: tint}, {A: tvar(far + 1000), B: tbool}}
	cycle := []api.Pair{{A: tvar(1000), B: data("List", tvar(0))}}
	for i, c := range []struct {
		l    []api.Pair
		want api.Errno
	}{
		{doubling(0, 0, 10, 0), api.OK}, {doubling(0, 0, 11, 0), api.ErrSize}, {doubling(0, 0, 1000, 0), api.ErrSize}, {slices.Concat(doubling(0, 0, 1000, 0), cycle), api.ErrType},
		{slices.Concat(doubling(0, 0, 1000, 0), doubling(0, far, 1000, 0), equal), api.ErrSize}, {slices.Concat(doubling(0, 0, 1000, 0), doubling(0, far, 1000, 0), equal, clash), api.ErrType}, {slices.Concat(clash, equal, doubling(0, 0, 1000, 0), doubling(0, far, 1000, 0)), api.ErrType},
		// Where the pairs of one side begin there are none of the other one.
		{slices.Concat(doubling(1, 0, 1000, 1), doubling(0, far, 1000, 1), equal), api.ErrSize}, {slices.Concat(equal, doubling(1, 0, 1000, 1), doubling(0, far, 1000, 1)), api.ErrSize},
	} {
		got, e := rows.Solve(c.l)
		if e != c.want || e != api.OK && !same(got, api.Subst{}) {
			t.Errorf("%d: Solve = %d; want %d", i, e, c.want)
		}
	}
}

// P5.3, R7, P0.6: as many equations as there may be, each of which says more of all others.
func TestSolveLongChains(t *testing.T) {
	var types, lists, tails, grown, tall []api.Pair
	for n := range api.MaxSize {
		types = append(types, api.Pair{A: tvar(n), B: tvar(n + 1)})
		lists = append(lists, api.Pair{A: tvar(n), B: data("List", tvar(n+1))})
		tails = append(tails, api.Pair{A: rowType(open(n)), B: rowType(open(n + 1))})
		grown = append(grown, api.Pair{A: rowType(open(n)), B: rowType(open(n+1, labels(24)[n%24]))})
		tall = append(tall, api.Pair{A: tvar(n), B: deep(199, tvar(n+1))})
	}
	back := func(l []api.Pair) []api.Pair {
		l = slices.Clone(l)
		slices.Reverse(l)
		return l
	}
	last := func(l []api.Pair, p api.Pair) []api.Pair { return append(l[1:len(l):len(l)], p) }
	cycle, clash := api.Pair{A: tvar(api.MaxSize), B: data("List", tvar(1))}, api.Pair{A: rowType(open(api.MaxSize, labels(1)...)), B: rowType(open(1))}
	for i, c := range []struct {
		l           []api.Pair
		want        api.Errno
		types, rows int
	}{
		{types, api.OK, api.MaxSize, 0}, {back(types), api.OK, api.MaxSize, 0}, {tails, api.OK, 0, api.MaxSize}, {back(tails), api.OK, 0, api.MaxSize}, {lists, api.ErrSize, 0, 0}, {back(lists), api.ErrSize, 0, 0}, {lists[:199], api.OK, 199, 0}, {lists[:200], api.ErrSize, 0, 0}, {grown, api.ErrSize, 0, 0}, {back(grown), api.ErrSize, 0, 0}, {grown[:24], api.OK, 0, 24}, {grown[:25], api.ErrSize, 0, 0},
		{tall, api.ErrSize, 0, 0}, {last(lists, cycle), api.ErrType, 0, 0}, {last(types, cycle), api.ErrType, 0, 0}, {last(tall, cycle), api.ErrType, 0, 0}, {last(tails, clash), api.ErrType, 0, 0}, {last(grown, clash), api.ErrType, 0, 0}, {last(grown, api.Pair{A: tint, B: tbool}), api.ErrType, 0, 0},
	} {
		s, e := rows.Solve(c.l)
		if e != c.want || len(s.Types) != c.types || len(s.Rows) != c.rows {
			t.Errorf("%d: Solve = %d, %d, %d; want %d", i, len(s.Types), len(s.Rows), e, c.want)
		}
	}
}
