package trees_test

import (
	"reflect"
	"slices"
	"testing"

	"reprise/api"
	"reprise/syntax"
	"reprise/trees"
)

// text is an expression with parts of both kinds.
const text = "match f (h.op 1) { A x -> using y [E] = 2 close g in x + y; B -> handle E 3 { return x -> x; op x k -> k x } }"

func parsed(t *testing.T) api.Expr {
	t.Helper()
	e, at, err := syntax.ParseExpr(text)
	if err != api.OK {
		t.Fatalf("ParseExpr = %d, %d", at, err)
	}
	return e
}

// A node comes before its parts, those of L before the bodies of Arms, with the number of nodes that it is within.
func TestNodes(t *testing.T) {
	var kinds []api.Kind
	var levels []int
	for level, n := range trees.Nodes(parsed(t), trees.ExprParts) {
		kinds, levels = append(kinds, n.Kind), append(levels, level)
	}
	wantKinds := []api.Kind{api.Match, api.App, api.Var, api.At, api.Int, api.Using, api.Int, api.Var, api.Prim, api.Var, api.Var, api.Handle, api.Int, api.Var, api.App, api.Var, api.Var}
	wantLevels := []int{1, 2, 3, 3, 4, 2, 3, 3, 3, 4, 4, 2, 3, 3, 3, 4, 4}
	if !slices.Equal(kinds, wantKinds) || !slices.Equal(levels, wantLevels) {
		t.Errorf("%v; %v", kinds, levels)
	}
	x, _, _ := syntax.ParseType("A (Int -> Bool) Unit")
	var types []api.TypeKind
	for _, n := range trees.Nodes(x, trees.TypeParts) {
		types = append(types, n.Kind)
	}
	if want := []api.TypeKind{api.TData, api.TFun, api.TInt, api.TBool, api.TUnit}; !slices.Equal(types, want) {
		t.Errorf("%v", types)
	}
}

// No more nodes are looked at than are asked for, also of trees that contain themselves.
func TestNodesEndEarly(t *testing.T) {
	e := parsed(t)
	all := syntax.Size(e)
	for most := 1; most <= all; most++ {
		n := 0
		for range trees.Nodes(e, trees.ExprParts) {
			if n++; n == most {
				break
			}
		}
		if n != most {
			t.Errorf("%d of %d nodes", n, most)
		}
	}
	endless := api.Expr{Kind: api.App, L: make([]api.Expr, 2)}
	endless.L[0], endless.L[1] = endless, endless
	for level := range trees.Nodes(endless, trees.ExprParts) {
		if level == 1000 {
			break
		}
	}
}

// The first error decides.
func TestFirstError(t *testing.T) {
	l := []api.Errno{api.OK, api.ErrName, api.ErrArg}
	same := func(e api.Errno) api.Errno { return e }
	for n, want := range []api.Errno{api.OK, api.OK, api.ErrName, api.ErrName} {
		if got := trees.FirstError(slices.All(l[:n]), same); got != want {
			t.Errorf("of %d: %d; want %d", n, got, want)
		}
	}
}

// A copy is equal, and stays so when the expression is changed everywhere.
func TestClone(t *testing.T) {
	e := parsed(t)
	c := trees.Clone(e)
	if !reflect.DeepEqual(c, e) {
		t.Fatalf("%v", c)
	}
	spoil(&e)
	if !reflect.DeepEqual(c, parsed(t)) {
		t.Errorf("%v", c)
	}
}

// program is the text of a program with all that programs have.
const program = "data A a { B a (A (A a)); C (Int -> <E, IO> A a) } effect E { ask : Unit -> A (Int -> <E> Int); once tell : (Int -> <E> Int) -> Unit } def f = fun x -> x main " + text

// A copy of a program is equal, and none of its lists lies where one of the program does.
func TestCloneProgram(t *testing.T) {
	p, at, err := syntax.Parse(program)
	if err != api.OK {
		t.Fatalf("Parse = %d, %d", at, err)
	}
	c := trees.CloneProgram(p)
	if !reflect.DeepEqual(c, p) {
		t.Fatalf("%v", c)
	}
	lists := listsOf(reflect.ValueOf(p))
	for at := range listsOf(reflect.ValueOf(c)) {
		if lists[at] {
			t.Error("memory is shared")
		}
	}
	x, _, _ := syntax.ParseType("A (Int -> <E, F | r1> A t0)")
	y := trees.CloneType(x)
	y.L[0].L[0].N, y.L[0].Row.Labels[1].N, y.L[0].L[1].L[0].N = 1, 2, 3
	if again, _, _ := syntax.ParseType("A (Int -> <E, F | r1> A t0)"); !reflect.DeepEqual(x, again) || reflect.DeepEqual(x, y) {
		t.Errorf("%v; %v", x, y)
	}
}

// listsOf returns where the lists within a value lie.
func listsOf(x reflect.Value) map[uintptr]bool {
	out := map[uintptr]bool{}
	var look func(x reflect.Value)
	look = func(x reflect.Value) {
		switch x.Kind() {
		case reflect.Slice:
			for i := range x.Len() {
				out[x.Pointer()] = true
				look(x.Index(i))
			}
		case reflect.Struct:
			for i := range x.NumField() {
				look(x.Field(i))
			}
		}
	}
	look(x)
	return out
}

// A value is what layer 6 generalizes: a constructor is one if all of its arguments are.
func TestIsValue(t *testing.T) {
	for want, texts := range map[bool][]string{
		true:  {"x", "1", "true", "()", "fun x -> f x", "A", "A[1, x, fun y -> f y]", "A[B[1], C[D[()]]]"},
		false: {"f x", "let x = 1 in x", "rec f x = x in f", "if true then 1 else 2", "1 + 2", "match x { }", "do op 1", "h.op 1", "handle E 1 { return x -> x }", "named h E 1 { return x -> x }", "mask E 1", "using x [] = 1 close f in x", "resume k 1", "drop k", "A[1, f x]", "A[B[1], C[D[f x]]]"},
	} {
		for _, text := range texts {
			x, at, err := syntax.ParseExpr(text)
			if err != api.OK || trees.IsValue(x) != want {
				t.Errorf("%s: %t; %d, %d", text, trees.IsValue(x), at, err)
			}
		}
	}
}

// spoil changes all that the lists of a tree hold.
func spoil(e *api.Expr) {
	for i := range e.Names {
		e.Names[i] += "0"
	}
	for i := range e.L {
		spoil(&e.L[i])
		e.L[i].N++
	}
	for i := range e.Arms {
		a := &e.Arms[i]
		a.Op += "0"
		for j := range a.Names {
			a.Names[j] += "0"
		}
		spoil(&a.Body)
		a.Body.N++
	}
}
