package syntax_test

import (
	"strings"
	"testing"

	"reprise/api"
	"reprise/syntax"
)

// P2.2: each kind, with the parentheses that its place asks for.
func TestShowExamples(t *testing.T) {
	f := fun("x", v("x"))
	sum := prim("+", num(1), num(2))
	product := prim("*", num(1), num(2))
	less := prim("<", num(1), num(2))
	for _, c := range []struct {
		e    api.Expr
		want string
	}{
		{v("x"), "x"}, {num(0), "0"}, {num(999999999), "999999999"}, {num(-5), "(-5)"}, {num(-999999999), "(-999999999)"}, {boolean(0), "false"}, {boolean(1), "true"}, {unit(), "()"},
		{fun("x", f), "fun x -> fun x -> x"}, {app(f, f), "(fun x -> x) (fun x -> x)"}, {app(app(v("f"), v("x")), v("y")), "f x y"}, {app(v("f"), app(v("g"), v("x"))), "f (g x)"},
		{app(v("f"), num(-1)), "f (-1)"}, {app(v("f"), unit()), "f ()"}, {app(con("Cons"), num(1)), "Cons 1"}, {app(con("Cons"), con("Nil")), "Cons Nil"}, {app(do("op", v("x")), v("y")), "do op x y"},
		{app(drop("k"), num(1)), "drop k 1"}, {app(v("f"), drop("k")), "f (drop k)"}, {app(match(v("x")), unit()), "match x { } ()"}, {app(v("f"), match(v("x"))), "f match x { }"},
		{let("x", f, let("y", f, f)), "let x = fun x -> x in let y = fun x -> x in fun x -> x"}, {let("x", let("y", num(1), v("y")), v("x")), "let x = let y = 1 in y in x"},
		{rec("f", "x", v("f"), v("f")), "rec f x = f in f"}, {cond(cond(v("a"), v("b"), v("c")), f, less), "if if a then b else c then fun x -> x else 1 < 2"},
		{prim("+", sum, sum), "1 + 2 + (1 + 2)"}, {prim("-", sum, product), "1 + 2 - 1 * 2"}, {prim("*", sum, sum), "(1 + 2) * (1 + 2)"}, {prim("*", product, product), "1 * 2 * (1 * 2)"}, {prim("-", less, less), "(1 < 2) - (1 < 2)"},
		{prim("==", sum, sum), "1 + 2 == 1 + 2"}, {prim("<", less, less), "(1 < 2) < (1 < 2)"}, {prim("==", less, num(1)), "(1 < 2) == 1"}, {prim("<", num(1), less), "1 < (1 < 2)"}, {prim("+", f, f), "(fun x -> x) + (fun x -> x)"},
		{prim("*", app(v("f"), v("x")), do("op", v("x"))), "f x * do op x"}, {prim("+", cond(v("a"), v("b"), v("c")), num(1)), "(if a then b else c) + 1"}, {prim("-", num(-1), num(-2)), "(-1) - (-2)"},
		{con("Nil"), "Nil"}, {con("Cons", num(1), con("Nil")), "Cons[1, Nil]"}, {con("C", f, less), "C[fun x -> x, 1 < 2]"}, {con("C", num(-1)), "C[(-1)]"}, {con("C", con("D", con("E", unit()))), "C[D[E[()]]]"},
		{match(f), "match fun x -> x { }"}, {match(v("l"), arm("Nil", num(0)), arm("Cons", f, "h", "t")), "match l { Nil -> 0; Cons h t -> fun x -> x }"},
		{do("op", unit()), "do op ()"}, {do("op", do("op", v("x"))), "do op (do op x)"}, {do("op", app(v("f"), v("x"))), "do op (f x)"}, {do("op", con("C", num(1))), "do op C[1]"},
		{at("h", "op", num(1)), "h.op 1"}, {at("h", "op", at("h", "op", unit())), "h.op (h.op ())"}, {app(at("h", "op", v("x")), at("h", "op", v("y"))), "h.op x (h.op y)"},
		{handle(0, "E", f, ret(f)), "handle E fun x -> x { return x -> fun x -> x }"}, {handle(1, "E", unit(), ret(v("x")), arm("op", v("k"), "a", "k")), "shallow E () { return x -> x; op a k -> k }"},
		{named("h", "E", sum, ret(v("x")), arm("op", app(v("k"), v("a")), "a", "k")), "named h E 1 + 2 { return x -> x; op a k -> k a }"},
		{mask("E", do("op", v("x"))), "mask E (do op x)"}, {mask("E", mask("F", unit())), "mask E (mask F ())"}, {using(names("x"), num(3), f, sum), "using x [] = 3 close fun x -> x in 1 + 2"},
		{using(names("x", "A", "B"), f, v("c"), v("x")), "using x [A, B] = fun x -> x close c in x"}, {app(using(names("x"), num(1), v("c"), v("x")), v("y")), "(using x [] = 1 close c in x) y"},
		{resume("k", sum), "resume k (1 + 2)"}, {resume("k", resume("k", unit())), "resume k (resume k ())"}, {drop("k"), "drop k"},
	} {
		if got, e := syntax.Show(c.e); got != c.want || e != api.OK {
			t.Errorf("Show = %q, %d; want %q", got, e, c.want)
		}
		if got := set(modelExpr(c.e, "expr")); got != c.want {
			t.Errorf("the model has %q; want %q", got, c.want)
		}
	}
}

// P2.2: types.
func TestShowTypeExamples(t *testing.T) {
	list := data("List", param("a"))
	for _, c := range []struct {
		x    api.Type
		want string
	}{
		{tint, "Int"}, {tbool, "Bool"}, {tunit, "Unit"}, {tvar(0), "t0"}, {tvar(999999999), "t999999999"}, {param("a"), "a"}, {param("t0"), "t0"}, {data("A"), "A"}, {list, "List a"}, {data("List", list), "List (List a)"},
		{data("P", data("A"), tint, tvar(1)), "P A Int t1"}, {pure(tint, pure(tint, tint)), "Int -> Int -> Int"}, {pure(pure(tint, tint), tint), "(Int -> Int) -> Int"}, {pure(list, list), "List a -> List a"}, {data("List", pure(tint, tint)), "List (Int -> Int)"},
		{arrow(tint, row(0), tint), "Int -> <| r0> Int"}, {arrow(tint, row(2, label("E", 0), label("F", 0)), tvar(0)), "Int -> <E, F | r2> t0"}, {arrow(tint, row(-1, label("E", 3), label("E", 0)), tint), "Int -> <E@3, E> Int"},
		{arrow(tint, row(999999999, label("E", 999999999)), arrow(tint, row(1), tint)), "Int -> <E@999999999 | r999999999> Int -> <| r1> Int"}, {arrow(arrow(tint, row(1), tint), row(-1), tint), "(Int -> <| r1> Int) -> Int"},
	} {
		if got, e := syntax.ShowType(c.x); got != c.want || e != api.OK {
			t.Errorf("ShowType = %q, %d; want %q", got, e, c.want)
		}
		if got := set(modelType(c.x, "type")); got != c.want {
			t.Errorf("the model has %q; want %q", got, c.want)
		}
	}
}

// P2.2: programs.
func TestPrintExamples(t *testing.T) {
	p := api.Program{
		Data: []api.Data{
			{Name: "Never"},
			{Name: "Pair", Params: names("a", "b"), Cons: []api.Cons{{Name: "Pair", Args: []api.Type{param("a"), param("b")}}}},
			{Name: "D", Cons: []api.Cons{{Name: "C", Args: []api.Type{data("List", data("List", param("t1")))}}, {Name: "F", Args: []api.Type{arrow(tint, row(-1, label("E", 0), label("IO", 0)), tint), data("D"), tint}}, {Name: "Z"}}},
		},
		Effects: []api.Effect{
			{Name: "None"},
			{Name: "E", Ops: []api.Op{{Name: "a", Arg: tint, Res: data("List", tint)}, {Name: "b", Arg: data("List", data("List", tint)), Res: pure(tint, tint), Once: true}, {Name: "c", Arg: pure(tint, tint), Res: tunit}}},
		},
		Defs: []api.Def{{Name: "f", Body: fun("x", v("x"))}, {Name: "f", Body: num(-1)}},
		Main: app(v("f"), unit()),
	}
	const want = `data Never { }
data Pair a b { Pair a b }
data D { C (List (List t1)); F (Int -> <E, IO> Int) D Int; Z }
effect None { }
effect E { a : Int -> List Int; once b : List (List Int) -> (Int -> Int); c : (Int -> Int) -> Unit }
def f = fun x -> x
def f = (-1)
main f ()
`
	if got, e := syntax.Print(p); got != want || e != api.OK {
		t.Errorf("Print = %q, %d", got, e)
	}
	if got := setLines(modelLines(p)); got != want {
		t.Errorf("the model has %q", got)
	}
	if got, e := syntax.Print(api.Program{}); got != "" || e != api.ErrName {
		t.Errorf("Print = %q, %d", got, e)
	}
}

// P2.2, P2.7, against the model: expressions, types and programs are set as the rules say, and a nested Let has the texts of the definitions.
func TestPrintModel(t *testing.T) {
	m := newMaker(5)
	for range 10000 {
		e := m.expr(6)
		if got, err := syntax.Show(e); got != set(modelExpr(e, "expr")) || err != api.OK {
			t.Fatalf("Show = %q, %d; want %q", got, err, set(modelExpr(e, "expr")))
		}
		x := m.typ(4, false)
		if got, err := syntax.ShowType(x); got != set(modelType(x, "type")) || err != api.OK {
			t.Fatalf("ShowType = %q, %d; want %q", got, err, set(modelType(x, "type")))
		}
	}
	for range 3000 {
		p := m.program()
		if got, err := syntax.Print(p); got != setLines(modelLines(p)) || err != api.OK {
			t.Fatalf("Print = %q, %d; want %q", got, err, setLines(modelLines(p)))
		}
		var want strings.Builder
		for _, d := range p.Defs {
			want.WriteString("let " + d.Name + " = " + set(modelExpr(d.Body, "expr")) + " in ")
		}
		want.WriteString(set(modelExpr(p.Main, "expr")))
		whole, err := syntax.Whole(p)
		if err != api.OK || syntax.Check(whole) != api.OK {
			t.Fatalf("Whole: %d, %d", err, syntax.Check(whole))
		}
		if got, err := syntax.Show(whole); got != want.String() || err != api.OK {
			t.Fatalf("Show of Whole = %q, %d; want %q", got, err, want.String())
		}
	}
}

// numbers returns an expression of n nodes whose leaves are Ints with as many more digits than one as there are left.
func numbers(n int, more *int) api.Expr {
	if n == 1 {
		x := 1
		for ; *more > 0 && x < 100000000; *more-- {
			x *= 10
		}
		return num(x)
	}
	e := con("Abcdefghijkl")
	for i := min(n-1, 4); i > 0; i-- {
		size := (n - 1 + i - 1) / i
		e.L = append(e.L, numbers(size, more))
		n -= size
	}
	return e
}

// ofLength returns a program whose text has n bytes.
func ofLength(t *testing.T, n int) api.Program {
	more := 0
	more = n - len(setLines(modelLines(api.Program{Main: numbers(2900, &more)})))
	p := api.Program{Main: numbers(2900, &more)}
	if got := len(setLines(modelLines(p))); got != n {
		t.Fatalf("a text of %d bytes; want %d", got, n)
	}
	return p
}

// P2.2, R1, R7: Print returns texts of at most MaxText bytes, and Show any texts.
func TestPrintLimit(t *testing.T) {
	for _, n := range []int{25000, 29999, 30000, 30001, 30002, 33000} {
		p := ofLength(t, n)
		text := setLines(modelLines(p))
		got, e := syntax.Print(p)
		if n <= 30000 && (got != text || e != api.OK) || n > 30000 && (got != "" || e != api.ErrSize) {
			t.Errorf("%d bytes: Print = %d bytes, %d", n, len(got), e)
		}
		if got, e := syntax.Show(p.Main); "main "+got+"\n" != text || e != api.OK {
			t.Errorf("%d bytes: Show = %d bytes, %d", n, len(got), e)
		}
		p.Main.S = "a"
		if got, e := syntax.Print(p); got != "" || e != api.ErrName {
			t.Errorf("%d bytes: Print = %d bytes, %d", n, len(got), e)
		}
	}
	p := full()
	for i := range p.Effects {
		for j := range p.Effects[i].Ops {
			p.Effects[i].Ops[j].Arg = wideType(3000)
		}
	}
	if got, e := syntax.Print(p); got != "" || e != api.ErrSize {
		t.Errorf("Print = %d bytes, %d", len(got), e)
	}
}
