package rows_test

import (
	"math"
	"slices"
	"testing"

	"reprise/api"
	"reprise/rows"
	"reprise/syntax"
)

// P5.1: labels are put in order, by S, byte by byte, and then by N, as often as each occurs, in each row.
func TestNorm(t *testing.T) {
	for _, c := range []struct{ text, want string }{
		{"Int", "Int"}, {"t7", "t7"}, {"List a", "List a"}, {"Int -> Bool", "Int -> Bool"}, {"Int -> <| r3> Bool", "Int -> <| r3> Bool"},
		{"t7 -> <F, E | r9> t3 -> t7", "t7 -> <E, F | r9> t3 -> t7"}, {"Unit -> <E, F, E> Unit", "Unit -> <E, E, F> Unit"},
		{"Unit -> <B, A10, A@2, Ab, A@10, A, AB, A_, A9> Unit", "Unit -> <A, A@2, A@10, A10, A9, AB, A_, Ab, B> Unit"},
		{"P (Unit -> <B, A> (Unit -> <D, C> Unit)) (Unit -> <F, E> Unit)", "P (Unit -> <A, B> Unit -> <C, D> Unit) (Unit -> <E, F> Unit)"},
		{"(Unit -> <B, A> Unit) -> <D, C | r0> (Unit -> <F, E> Unit)", "(Unit -> <A, B> Unit) -> <C, D | r0> Unit -> <E, F> Unit"},
	} {
		got, e := rows.Norm(typ(t, c.text))
		if shown(got) != c.want || e != api.OK {
			t.Errorf("Norm(%s) = %s, %d", c.text, shown(got), e)
		}
	}
	most := labels(2 * api.MaxDecls)
	for _, x := range []api.Type{deep(api.MaxDepth-1, tint), wide(api.MaxSize, tint), rowType(open(api.MaxInt, most...)), tvar(api.MaxInt)} {
		if got, e := rows.Norm(x); !same(got, modelNormal(x)) || e != api.OK {
			t.Errorf("Norm at a limit: %d", e)
		}
	}
}

// P5.1 to P5.4, R1, R2: the errors of types come from syntax, and with them there is nothing else.
func TestMalformedTypes(t *testing.T) {
	other := typ(t, "Unit -> <B, A | r0> t0")
	for want, l := range malformed() {
		for i, x := range l {
			if e := syntax.CheckType(x); e != want {
				t.Fatalf("%d, %d: CheckType = %d", want, i, e)
			}
			norm, e1 := rows.Norm(x)
			types, tails, e2 := rows.Vars(x)
			canon, e3 := rows.Canon(x)
			applied, e4 := rows.Apply(subst(t, "t0: Int; r0: <A>"), x)
			s1, e5 := rows.Unify(x, other)
			s2, e6 := rows.Unify(other, x)
			s3, is1, e7 := rows.Instance(x, other)
			s4, is2, e8 := rows.Instance(other, x)
			e9 := rows.CheckSubst(api.Subst{Types: []api.TypeBind{{N: 3, T: x}}})
			for j, e := range []api.Errno{e1, e2, e3, e4, e5, e6, e7, e8, e9} {
				if e != want {
					t.Errorf("%d, %d: function %d: error %d", want, i, j+1, e)
				}
			}
			zero := same(norm, api.Type{}) && same(canon, api.Type{}) && same(applied, api.Type{}) && len(types)+len(tails) == 0
			for _, s := range []api.Subst{s1, s2, s3, s4} {
				zero = zero && same(s, api.Subst{})
			}
			if !zero || is1 || is2 {
				t.Errorf("%d, %d: results beside an error", want, i)
			}
			if rows.Equal(x, x) || rows.Equal(x, other) || rows.Equal(other, x) {
				t.Errorf("%d, %d: equal to something", want, i)
			}
		}
	}
}

// P5.1: types are equal just if their normal types are the same.
func TestEqual(t *testing.T) {
	for _, c := range []struct {
		a, b string
		want bool
	}{
		{"Int", "Int", true}, {"Int", "Bool", false}, {"t0", "t0", true}, {"t0", "t1", false}, {"a", "b", false}, {"List a", "List a", true}, {"List a", "List b", false}, {"List a", "Tree a", false}, {"List", "List Int", false},
		{"Unit -> <E, F> Unit", "Unit -> <F, E> Unit", true}, {"Unit -> <E, E, F> Unit", "Unit -> <E, F, E> Unit", true}, {"Unit -> <E, E, F> Unit", "Unit -> <E, F, F> Unit", false}, {"Unit -> <E, E> Unit", "Unit -> <E> Unit", false}, {"Unit -> <E@1> Unit", "Unit -> <E> Unit", false}, {"Unit -> <E@1, E> Unit", "Unit -> <E, E@1> Unit", true},
		{"Unit -> <E | r0> Unit", "Unit -> <E> Unit", false}, {"Unit -> <E | r0> Unit", "Unit -> <E | r1> Unit", false}, {"Unit -> <F, E | r1> Unit", "Unit -> <E, F | r1> Unit", true}, {"Unit -> Unit", "Unit -> <> Unit", true},
		{"List (Unit -> <E, F> Unit)", "List (Unit -> <F, E> Unit)", true}, {"(Unit -> <E, F> Unit) -> Int", "(Unit -> <F, E> Unit) -> Int", true}, {"Int -> Unit -> <E, F> Unit", "Int -> Unit -> <F, E> Unit", true},
	} {
		a, b := typ(t, c.a), typ(t, c.b)
		if got := rows.Equal(a, b); got != c.want || rows.Equal(b, a) != c.want {
			t.Errorf("Equal(%s, %s) = %t", c.a, c.b, got)
		}
	}
}

// P5.1: variables in the order of their first occurrence; the row of a function type stands between its argument and its result, and only function types have one.
func TestVars(t *testing.T) {
	for _, c := range []struct {
		text        string
		types, rows []int
	}{
		{"Int", nil, nil}, {"a", nil, nil}, {"List Int -> Bool", nil, nil}, {"t0", []int{0}, nil}, {"Unit -> <A | r0> Unit", nil, []int{0}},
		{"t7 -> <F, E | r9> t3 -> t7", []int{7, 3}, []int{9}}, {"P t3 t1 t3 t2", []int{3, 1, 2}, nil}, {"(Unit -> <| r5> Unit) -> <| r2> Unit -> <| r5> (Unit -> <| r1> Unit)", nil, []int{5, 2, 1}},
		{"P (t4 -> <| r4> t2) (t2 -> <| r3> t9)", []int{4, 2, 9}, []int{4, 3}}, {"t999999999 -> <| r999999999> t0", []int{999999999, 0}, []int{999999999}},
	} {
		types, tails, e := rows.Vars(typ(t, c.text))
		if !slices.Equal(types, c.types) || !slices.Equal(tails, c.rows) || e != api.OK {
			t.Errorf("Vars(%s) = %v, %v, %d", c.text, types, tails, e)
		}
	}
}

// P5.2, R1: each error of a substitution, and which one comes first.
func TestCheckSubst(t *testing.T) {
	for _, c := range []struct {
		text string
		want api.Errno
	}{
		{"", api.OK}, {"t0: Int", api.OK}, {"t0: t1", api.OK}, {"t1: t0; t2: t0", api.OK}, {"r0: <A>", api.OK}, {"r0: <A | r1>", api.OK}, {"r0: <>", api.OK}, {"t0: Unit -> <A | r0> Unit", api.OK}, {"t0: t1 -> <| r1> t1; r0: <| r1>", api.OK}, {"t3: Int; t5: Int; r2: <>; r4: <>", api.OK}, {"t5: Int; r2: <>", api.OK}, {"t0: t5; r5: <>", api.OK}, {"t0: Int; r0: <B, A>", api.OK},
		// Numbers ascend.
		{"t1: Int; t0: Int", api.ErrArg}, {"t1: Int; t1: Int", api.ErrArg}, {"t0: Int; t2: Int; t1: Int", api.ErrArg}, {"r1: <>; r0: <>", api.ErrArg}, {"r1: <>; r1: <>", api.ErrArg}, {"t0: Int; r1: <>; r0: <>", api.ErrArg}, {"t-1: Int", api.ErrArg}, {"r-1: <>", api.ErrArg}, {"t0: Int; r-1: <>", api.ErrArg},
		// No variable that is bound occurs.
		{"t0: t0", api.ErrArg}, {"t0: List t0", api.ErrArg}, {"t0: t1; t1: Int", api.ErrArg}, {"t0: Int; t1: t0", api.ErrArg}, {"t0: t2 -> List t1; t1: Int", api.ErrArg}, {"r0: <| r0>", api.ErrArg}, {"r0: <A | r1>; r1: <>", api.ErrArg}, {"r0: <>; r1: <A | r0>", api.ErrArg}, {"t0: Unit -> <| r1> Unit; r1: <>", api.ErrArg}, {"t0: Unit -> List (Unit -> <| r1> Unit); r1: <>", api.ErrArg},
	} {
		if got := rows.CheckSubst(subst(t, c.text)); got != c.want {
			t.Errorf("CheckSubst(%s) = %d; want %d", c.text, got, c.want)
		}
	}
	bad := api.Type{Kind: -1}
	for i, c := range []struct {
		s    api.Subst
		want api.Errno
	}{
		{api.Subst{Types: make([]api.TypeBind, api.MaxSize+1)}, api.ErrSize}, {api.Subst{Rows: make([]api.RowBind, api.MaxSize+1)}, api.ErrSize}, {api.Subst{Types: []api.TypeBind{{N: -1}}, Rows: make([]api.RowBind, api.MaxSize+1)}, api.ErrSize},
		{api.Subst{Types: []api.TypeBind{{N: -1, T: data("int")}}}, api.ErrArg}, {api.Subst{Types: []api.TypeBind{{N: math.MinInt, T: tint}}}, api.ErrArg}, {api.Subst{Types: []api.TypeBind{{N: 0, T: data("int")}, {N: 0, T: bad}}}, api.ErrName}, {api.Subst{Types: []api.TypeBind{{N: 0, T: tvar(0)}, {N: 1, T: data("int")}}}, api.ErrName},
		{api.Subst{Types: []api.TypeBind{{N: 0, T: tvar(0)}}, Rows: []api.RowBind{{N: 0, R: closed(api.Label{})}}}, api.ErrName}, {api.Subst{Types: []api.TypeBind{{N: 0, T: data("int")}}, Rows: []api.RowBind{{N: -1}}}, api.ErrName}, {api.Subst{Rows: []api.RowBind{{N: -1, R: closed(api.Label{})}}}, api.ErrArg}, {api.Subst{Rows: []api.RowBind{{N: 0, R: closed(api.Label{})}, {N: 0}}}, api.ErrName}, {api.Subst{Rows: []api.RowBind{{N: 3, R: closed(api.Label{S: "A", N: -1})}}}, api.ErrArg}, {api.Subst{Rows: []api.RowBind{{N: 3, R: open(-2)}}}, api.ErrArg}, {api.Subst{Rows: []api.RowBind{{N: 3, R: open(api.MaxInt + 1)}}}, api.ErrArg},
		{api.Subst{Rows: []api.RowBind{{N: 3, R: closed(labels(2*api.MaxDecls + 1)...)}}}, api.ErrSize}, {api.Subst{Rows: []api.RowBind{{N: 3, R: closed(labels(2 * api.MaxDecls)...)}}}, api.OK}, {api.Subst{Types: []api.TypeBind{{N: 1, T: endless()}, {N: 0, T: bad}}}, api.ErrSize},
		{api.Subst{Types: []api.TypeBind{{N: api.MaxInt, T: tint}, {N: math.MaxInt, T: tint}}, Rows: []api.RowBind{{N: api.MaxInt, R: closed()}, {N: math.MaxInt, R: closed()}}}, api.OK},
	} {
		if got := rows.CheckSubst(c.s); got != c.want {
			t.Errorf("%d: CheckSubst = %d; want %d", i, got, c.want)
		}
		if x, e := rows.Apply(c.s, bad); c.want != api.OK && (e != c.want || !same(x, api.Type{})) {
			t.Errorf("%d: Apply = %d; want %d", i, e, c.want)
		}
	}
}

// full returns a substitution with as many bindings as there may be, and as many more.
func full(more int) (s api.Subst) {
	for n := range api.MaxSize + more {
		s.Types = append(s.Types, api.TypeBind{N: n, T: tint})
		s.Rows = append(s.Rows, api.RowBind{N: n, R: closed(api.Label{S: "A"})})
	}
	return s
}

// P5.2, R7: as many bindings as there may be.
func TestFullSubst(t *testing.T) {
	x, e := rows.Apply(full(0), typ(t, "t2999 -> <B | r2999> t3000"))
	if shown(x) != "Int -> <A, B> t3000" || e != api.OK || rows.CheckSubst(full(0)) != api.OK {
		t.Errorf("Apply = %s, %d", shown(x), e)
	}
	if e := rows.CheckSubst(full(1)); e != api.ErrSize {
		t.Errorf("CheckSubst = %d", e)
	}
}

// P5.2: what is bound is replaced, once, and the result is normal.
func TestApply(t *testing.T) {
	for _, c := range []struct{ s, text, want string }{
		{"", "t0 -> <B, A | r0> t1", "t0 -> <A, B | r0> t1"}, {"t3: Int; r9: <A>", "t7 -> <F, E | r9> t3 -> t7", "t7 -> <A, E, F> Int -> t7"}, {"t0: Int", "t0 -> t0", "Int -> Int"}, {"t0: Int", "a -> t1", "a -> t1"}, {"t0: t1 -> t1", "List t0", "List (t1 -> t1)"},
		{"r0: <B | r1>", "Unit -> <C, A | r0> Unit", "Unit -> <A, B, C | r1> Unit"}, {"r0: <A>", "Unit -> <A | r0> Unit", "Unit -> <A, A> Unit"}, {"r0: <>", "Unit -> <| r0> Unit", "Unit -> Unit"}, {"r0: <A>", "Unit -> <B> Unit", "Unit -> <B> Unit"}, {"r0: <A>", "t0", "t0"}, {"t0: Int", "Unit -> <| r0> Unit", "Unit -> <| r0> Unit"},
		{"t0: Unit -> <C, B, A> Unit", "List t0", "List (Unit -> <A, B, C> Unit)"}, {"t0: Unit -> <A | r1> Unit; r0: <B, A@2, A@1 | r2>", "t0 -> <A@3 | r0> t0", "(Unit -> <A | r1> Unit) -> <A@1, A@2, A@3, B | r2> Unit -> <A | r1> Unit"}, {"t0: Bool; t5: Int", "P t5 (P t0 t1) t0", "P Int (P Bool t1) Bool"},
	} {
		got, e := rows.Apply(subst(t, c.s), typ(t, c.text))
		if shown(got) != c.want || e != api.OK {
			t.Errorf("Apply(%s, %s) = %s, %d; want %s", c.s, c.text, shown(got), e, c.want)
		}
	}
}

// P5.2, R1, R7: the limits of a result, and errors in their order.
func TestApplyLimits(t *testing.T) {
	half := api.Subst{Types: []api.TypeBind{{N: 0, T: wide(1000, tint)}, {N: 1, T: deep(99, tint)}, {N: 2, T: wide(998, tint)}}, Rows: []api.RowBind{{N: 0, R: closed(labels(20)...)}}}
	for i, c := range []struct {
		x    api.Type
		want api.Errno
	}{
		{data("P", tvar(0), tvar(0), tvar(2), tint), api.OK}, {data("P", tvar(0), tvar(0), tvar(2), data("A", tint)), api.ErrSize}, {data("P", tvar(0), tvar(0), tvar(0)), api.ErrSize},
		{deep(100, tvar(1)), api.OK}, {deep(101, tvar(1)), api.ErrSize}, {deep(199, tvar(1)), api.ErrSize}, {deep(199, tvar(9)), api.OK},
		{rowType(open(0, labels(4)...)), api.OK}, {rowType(open(0, labels(5)...)), api.ErrSize}, {rowType(open(1, labels(24)...)), api.OK}, {rowType(closed(labels(24)...)), api.OK}, {data("P", tint, rowType(open(0, labels(5)...))), api.ErrSize}, {deep(199, tint), api.OK}, {wide(api.MaxSize, tint), api.OK},
		{wide(api.MaxSize+1, tint), api.ErrSize}, {data("p", tvar(0), tvar(0), tvar(0)), api.ErrName}, {wide(api.MaxSize, tvar(0)), api.ErrSize},
	} {
		got, e := rows.Apply(half, c.x)
		if e != c.want || c.want == api.OK && !same(got, modelApply(half, c.x)) || c.want != api.OK && !same(got, api.Type{}) {
			t.Errorf("%d: Apply = %d; want %d", i, e, c.want)
		}
	}
	if _, e := rows.Apply(api.Subst{Rows: []api.RowBind{{N: 0, R: closed(labels(20)...)}}}, deep(1, tvar(0))); e != api.OK {
		t.Errorf("a type variable has the row of a row variable: %d", e)
	}
}
