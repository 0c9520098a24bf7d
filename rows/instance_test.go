package rows_test

import (
	"testing"

	"reprise/api"
	"reprise/rows"
)

// P5.4: which types are instances, and by which substitution, by the model too.
func TestInstance(t *testing.T) {
	for _, c := range []struct{ general, special, want string }{
		{"t0", "t0", "t0: t0"}, {"t0", "Int", "t0: Int"}, {"t0", "t1", "t0: t1"}, {"Int", "Int", ""}, {"a", "a", ""}, {"t0 -> <E | r0> t0", "Int -> <F, E> Int", "t0: Int; r0: <F>"}, {"Unit -> <| r0> Unit", "Unit -> <E | r0> Unit", "r0: <E | r0>"}, {"t0 -> t1", "t1 -> t0", "t0: t1; t1: t0"}, {"t0", "List t0", "t0: List t0"}, {"t3 -> t1", "List t1 -> t3", "t1: t3; t3: List t1"}, {"P t2 t0 t1", "P Int Bool Unit", "t0: Bool; t1: Unit; t2: Int"},
		{"t0 -> t0", "(Unit -> <A, B> Unit) -> Unit -> <B, A> Unit", "t0: Unit -> <A, B> Unit"}, {"t0", "Unit -> <B, A | r7> Unit", "t0: Unit -> <A, B | r7> Unit"}, {"Unit -> <E, F> Unit", "Unit -> <F, E> Unit", ""}, {"Unit -> <E | r0> Unit", "Unit -> <E> Unit", "r0: <>"}, {"Unit -> <E | r3> Unit -> <| r1> Unit", "Unit -> <E, E | r1> Unit -> <| r3> Unit", "r1: <| r3>; r3: <E | r1>"}, {"Unit -> <A | r0> Unit -> <B | r0> Unit", "Unit -> <A, D, C | r1> Unit -> <C, D, B | r1> Unit", "r0: <C, D | r1>"}, {"Unit -> <| r0> Unit -> <| r0> Unit", "Unit -> <A, B, A> Unit -> <B, A, A> Unit", "r0: <A, A, B>"},
		{"t0 -> t0", "Int -> Bool", "no"}, {"Int", "t0", "no"}, {"Int", "Bool", "no"}, {"a", "b", "no"}, {"a", "t0", "no"}, {"List t0", "Tree Int", "no"}, {"List t0", "List", "no"}, {"t0 -> t0", "Int", "no"}, {"t0 -> t0", "t0 -> t1", "no"}, {"List t0", "t0", "no"}, {"t0 -> t0", "t0 -> List t0", "no"}, {"P t0 t0", "P (List Int) (List Bool)", "no"},
		{"Unit -> <E> Unit", "Unit -> <E | r1> Unit", "no"}, {"Unit -> Unit", "Unit -> <E> Unit", "no"}, {"Unit -> <E | r0> Unit", "Unit -> Unit", "no"}, {"Unit -> <E, E | r0> Unit", "Unit -> <E | r0> Unit", "no"}, {"Unit -> <E@1 | r0> Unit", "Unit -> <E> Unit", "no"}, {"Unit -> <E | r0> Unit", "Unit -> <F | r0> Unit", "no"}, {"Unit -> <| r0> Unit -> <| r0> Unit", "Unit -> <A> Unit -> <B> Unit", "no"}, {"Unit -> <| r0> Unit -> <| r0> Unit", "Unit -> <A | r0> Unit -> <A | r1> Unit", "no"}, {"Unit -> <| r0> Unit -> <| r0> Unit", "Unit -> <A> Unit -> <A | r0> Unit", "no"}, {"Unit -> <| r0> Unit -> <| r0> Unit", "Unit -> <A> Unit -> <A, A> Unit", "no"},
	} {
		general, special := typ(t, c.general), typ(t, c.special)
		var want api.Subst
		if c.want != "no" {
			want = subst(t, c.want)
		}
		s, is, e := rows.Instance(general, special)
		model, modelIs := modelInstance(general, special)
		if e != api.OK || is != (c.want != "no") || modelIs != is || !same(s, want) || !same(model, want) {
			t.Errorf("Instance(%s, %s) = %s, %t, %d, by the model %s, %t; want %s", c.general, c.special, shownSubst(s), is, e, shownSubst(model), modelIs, c.want)
		}
	}
}

// P5.4, R1: the error of the general type comes first.
func TestInstanceErrors(t *testing.T) {
	bad, name := api.Type{Kind: -1}, data("x")
	if _, is, e := rows.Instance(bad, name); is || e != api.ErrArg {
		t.Errorf("%t, %d", is, e)
	}
	if _, is, e := rows.Instance(name, bad); is || e != api.ErrName {
		t.Errorf("%t, %d", is, e)
	}
	if _, is, e := rows.Instance(tint, name); is || e != api.ErrName {
		t.Errorf("%t, %d", is, e)
	}
}

// P5.4, R7: types at their limits.
func TestInstanceLimits(t *testing.T) {
	many := wide(api.MaxSize, tint)
	next := 0
	var free func(x api.Type) api.Type
	free = func(x api.Type) api.Type {
		if len(x.L) == 0 {
			next++
			return tvar(next)
		}
		x = copied(x, false)
		for i, part := range x.L {
			x.L[i] = free(part)
		}
		return x
	}
	general := free(many)
	if s, is, e := rows.Instance(general, many); !is || e != api.OK || len(s.Types) != next {
		t.Errorf("%d bindings, %t, %d; want %d", len(s.Types), is, e, next)
	}
	for _, x := range []api.Type{many, deep(api.MaxDepth-1, tint), rowType(open(api.MaxInt, labels(2*api.MaxDecls)...))} {
		if s, is, e := rows.Instance(tvar(api.MaxInt), x); !is || e != api.OK || !same(s, api.Subst{Types: []api.TypeBind{{N: api.MaxInt, T: modelNormal(x)}}}) {
			t.Errorf("%s, %t, %d", shownSubst(s), is, e)
		}
	}
}

// P5.4: variables are numbered in the order of their first occurrence, and labels are in order.
func TestCanon(t *testing.T) {
	for _, c := range []struct{ text, want string }{
		{"Int", "Int"}, {"t0", "t0"}, {"t5", "t0"}, {"t999999999", "t0"}, {"t7 -> <F, E | r9> t3 -> t7", "t0 -> <E, F | r0> t1 -> t0"}, {"P t1 t0 t1 t2", "P t0 t1 t0 t2"}, {"Unit -> <| r1> Unit -> <| r0> Unit -> <| r1> Unit", "Unit -> <| r0> Unit -> <| r1> Unit -> <| r0> Unit"},
		{"(t1 -> <B, A | r2> t0) -> <| r1> t0 -> <| r2> t1", "(t0 -> <A, B | r0> t1) -> <| r1> t1 -> <| r0> t0"}, {"a -> <B@2, B@1> List b", "a -> <B@1, B@2> List b"}, {"t1 -> <| r1> t0", "t0 -> <| r0> t1"}, {"Unit -> Unit", "Unit -> Unit"},
	} {
		got, e := rows.Canon(typ(t, c.text))
		if shown(got) != c.want || e != api.OK {
			t.Errorf("Canon(%s) = %s, %d", c.text, shown(got), e)
		}
	}
}
