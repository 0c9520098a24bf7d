package decl_test

import (
	"math"
	"slices"
	"strings"
	"testing"

	"reprise/api"
	"reprise/decl"
	"reprise/syntax"
)

// P4.1, R1: each error of declarations, and which one comes first.
func TestDecls(t *testing.T) {
	for _, c := range []struct {
		text string
		want api.Errno
	}{
		{"", api.OK}, {head, api.OK}, {head + "effect IO { }", api.ErrTwice},
		// Names of data types.
		{"data Int { }", api.ErrTwice}, {"data Bool { }", api.ErrTwice}, {"data Unit { }", api.ErrTwice}, {"data A { } data A { }", api.ErrTwice}, {"data A { } data B { } data A { }", api.ErrTwice}, {"data IO { }", api.OK}, {"data Int2 { }", api.OK},
		{"data A { } effect A { }", api.OK}, {"data A { A }", api.OK}, {"data A { B } data B { C }", api.OK}, {"data A { Int; IO }", api.OK},
		// Names of constructors.
		{"data A { B; B }", api.ErrTwice}, {"data A { B } data C { B }", api.ErrTwice}, {"data A { B } data C { D; E; B }", api.ErrTwice}, {"data A { B; C } data D { E; F }", api.OK},
		// Types of arguments.
		{"data A { B A }", api.OK}, {"data A { B C } data C { }", api.OK}, {"data A { B C }", api.ErrNone}, {"data A { B a }", api.ErrNone}, {"data A a { B a }", api.OK}, {"data A a { B b }", api.ErrNone}, {"data A a { } data B { C a }", api.ErrNone}, {"data A a { B A }", api.ErrArity}, {"data A { B (A Int) }", api.ErrArity},
		{"data A a b { B (A b a) }", api.OK}, {"data A a b { B (A b) }", api.ErrArity}, {"data A a b { B (A b a a) }", api.ErrArity}, {"data A a { B (A (A (A a))) }", api.OK}, {"data A a { B (A (A A)) }", api.ErrArity}, {"data A a { B (A (A C)) }", api.ErrNone}, {"data A { B Int Bool Unit Int }", api.OK},
		{"data A { B (Int -> Int) }", api.OK}, {"data A { B (Int -> <Foo> Int) }", api.ErrNone}, {"data A { B (Int -> <IO, E, E> Int) } effect E { }", api.OK}, {"data A { B (Int -> <A> Int) }", api.ErrNone}, {"data A a { B (a -> Int -> <IO> (Int -> a)) }", api.OK}, {"data A a { B (a -> Int -> <IO> (Int -> b)) }", api.ErrNone},
		// A node comes before its parts, an error of a label is one of its node, and parts come in order.
		{"data A a { B (A A Foo) }", api.ErrArity}, {"data A a { B (A Foo A) }", api.ErrArity}, {"data A a b { B (A A Foo) }", api.ErrArity}, {"data A a b { B (A Foo A) }", api.ErrNone}, {"data A { B (A Int -> <Foo> Int) }", api.ErrNone}, {"data A { B (A Int -> <IO> Foo) }", api.ErrArity}, {"data A { B (Foo -> <IO> A Int) }", api.ErrNone},
		// The order of data types, constructors and arguments.
		{"data A { B Foo; B }", api.ErrNone}, {"data A { B; B Foo }", api.ErrTwice}, {"data A { B Foo } data A { }", api.ErrNone}, {"data A { } data A { B Foo }", api.ErrTwice}, {"data A { B (A Int) Foo }", api.ErrArity}, {"data A { B Foo (A Int) }", api.ErrNone}, {"data A { B (A Int) } data A a { }", api.ErrArity}, {"data A { B C } data C a { } data C { }", api.ErrArity}, {"data A { B Foo } effect IO { }", api.ErrNone}, {"effect IO { } effect E { x : Foo -> Int }", api.ErrTwice},
		// Effects.
		{"effect IO { }", api.ErrTwice}, {"effect E { } effect E { }", api.ErrTwice}, {"effect E { } effect F { } effect E { }", api.ErrTwice}, {"effect Int { }", api.OK}, {"effect E { x : Int -> Int; x : Foo -> Int }", api.ErrTwice}, {"effect E { x : Int -> Int } effect F { y : Int -> Int; x : Int -> Int }", api.ErrTwice}, {"effect E { read : Int -> Int }", api.ErrTwice}, {"effect E { print : Foo -> Int }", api.ErrTwice}, {"effect E { prints : Int -> Int; reads : Int -> Int }", api.OK},
		{"effect E { x : a -> Int }", api.ErrNone}, {"effect E { x : Int -> a }", api.ErrNone}, {"effect E { x : Foo -> Int }", api.ErrNone}, {"effect E { x : Int -> Foo }", api.ErrNone}, {"effect E { x : (Int -> <E> Int) -> Int }", api.OK}, {"effect E { x : (Int -> <F> Int) -> Int }", api.ErrNone}, {"effect E { x : (Int -> <F, IO> Int) -> Int } effect F { }", api.OK},
		{"data A a { } effect E { x : A -> Foo }", api.ErrArity}, {"data A a { } effect E { x : Foo -> A }", api.ErrNone}, {"data A a { } effect E { x : Int -> A Int; y : A (A Bool) -> A }", api.ErrArity}, {"data A a { } effect E { x : A a -> Int }", api.ErrNone},
	} {
		p := parsed(t, c.text)
		got, model := decl.Decls(p), modelDecls(p)
		if got != c.want || model != c.want {
			t.Errorf("%q: %d, by the model %d; want %d", c.text, got, model, c.want)
		}
	}
}

// malformed has programs, each with the error of syntax.CheckProgram for its declarations.
func malformed() map[api.Errno][]api.Program {
	endlessType, _ := endless()
	withArg := func(t api.Type) api.Program {
		return api.Program{Data: []api.Data{{Name: "Int", Cons: []api.Cons{{Name: "K", Args: []api.Type{t}}}}}}
	}
	withOp := func(arg, res api.Type) api.Program {
		return api.Program{Effects: []api.Effect{{Name: "IO", Ops: []api.Op{{Name: "read", Arg: arg, Res: res}}}}}
	}
	tvar := api.Type{Kind: api.TVar}
	open := api.Type{Kind: api.TFun, L: []api.Type{tint, tint}}
	return map[api.Errno][]api.Program{
		api.ErrSize: {
			{Data: make([]api.Data, api.MaxDecls+1)}, {Effects: make([]api.Effect, api.MaxDecls+1)}, withArg(endlessType), withArg(wide(api.MaxSize+1, tint)), withOp(deep(api.MaxDepth, tint), tint),
			{Data: []api.Data{{Name: "Int", Cons: make([]api.Cons, api.MaxCases+1)}}}, {Data: []api.Data{{Name: "Int", Params: make([]string, api.MaxArgs+1)}}},
		},
		api.ErrName:  {{Data: []api.Data{{Name: "a"}, {Name: "Int"}}}, {Data: []api.Data{{Name: "Int"}, {Name: "a"}}}, {Effects: []api.Effect{{Name: "IO"}, {Name: "e"}}}, withOp(tint, data("Int")), withArg(param("X")), {Data: []api.Data{{Name: "Int", Cons: []api.Cons{{}}}}}},
		api.ErrTwice: {{Data: []api.Data{{Name: "A", Params: []string{"a", "a"}}, {Name: "b"}}}},
		api.ErrArg:   {withArg(tvar), withArg(api.Type{Kind: -1}), withOp(tint, tvar), withOp(open, tint), withArg(data("Foo", open)), withArg(api.Type{Kind: api.TInt, N: 1})},
		api.ErrArity: {withArg(api.Type{Kind: api.TFun}), withOp(data("A", slices.Repeat([]api.Type{tint}, api.MaxArgs+1)...), tint)},
	}
}

// P4.1 to P4.8, R1, R2, R8: a program that is not well formed has that error first, in each function that checks declarations; its definitions and its main do not count there.
func TestMalformedPrograms(t *testing.T) {
	_, endlessExpr := endless()
	for want, l := range malformed() {
		for i, p := range l {
			if e := syntax.CheckProgram(api.Program{Data: p.Data, Effects: p.Effects, Main: api.Expr{Kind: api.Unit}}); e != want {
				t.Fatalf("%d, %d: CheckProgram = %d", want, i, e)
			}
			p.Main = endlessExpr
			p.Defs = make([]api.Def, 1)
			wantRefused(t, p, want)
		}
	}
	for _, text := range []string{"data Int { }", "data A { B A; C Foo }"} {
		p := parsed(t, text)
		p.Defs, p.Main = make([]api.Def, api.MaxDefs+1), api.Expr{Kind: -1}
		wantRefused(t, p, modelDecls(p))
		if e := decl.Check(p); e != api.ErrSize {
			t.Errorf("%s: Check = %d", text, e)
		}
		if p.Defs = nil; decl.Check(p) != api.ErrArg {
			t.Errorf("%s: Check = %d", text, decl.Check(p))
		}
		if p.Main = expr(t, "Box"); decl.Check(p) != modelDecls(p) {
			t.Errorf("%s: Check = %d", text, decl.Check(p))
		}
	}
	p := parsed(t, head)
	p.Main, p.Defs = api.Expr{Kind: -1}, make([]api.Def, api.MaxDefs+1)
	if e, f := decl.Decls(p), decl.CheckExpr(p, expr(t, "Nil")); e != api.OK || f != api.OK {
		t.Errorf("Main counts: %d, %d", e, f)
	}
}

// wantRefused checks that all functions that check declarations refuse a program, whatever else is wrong.
func wantRefused(t *testing.T, p api.Program, want api.Errno) {
	t.Helper()
	badType, badExpr := api.Type{Kind: -1}, api.Expr{Kind: -1}
	e1 := decl.Decls(p)
	e2 := decl.CheckExpr(p, badExpr)
	e3 := decl.CheckType(p, badType)
	fields, e4 := decl.Fields(p, "Foo", []api.Type{badType})
	inhabited, e5 := decl.Inhabited(p, badType)
	fits, e6 := decl.Fits(p, badType, badExpr)
	n, e7 := decl.Count(p, badType, -1)
	values, e8 := decl.Values(p, badType, -1)
	for i, e := range []api.Errno{e1, e2, e3, e4, e5, e6, e7, e8} {
		if e != want {
			t.Errorf("function %d: error %d; want %d: %d, %d", i+1, e, want, len(p.Data), len(p.Effects))
		}
	}
	if len(fields)+len(values)+n != 0 || inhabited || fits {
		t.Errorf("results beside an error: %v, %v, %d, %t, %t", fields, values, n, inhabited, fits)
	}
}

// exprCases has expressions in the program of the chapter's examples.
func exprCases() map[string]api.Errno {
	return map[string]api.Errno{
		"x": api.OK, "1": api.OK, "fun x -> x": api.OK, "resume k (drop k)": api.OK,
		"Cons[1, Nil]": api.OK, "Cons[1]": api.ErrArity, "Cons": api.ErrArity, "Cons[1, 2, 3]": api.ErrArity, "Nil": api.OK, "Nil[1]": api.ErrArity, "Box": api.ErrNone, "Box[1]": api.ErrNone, "List": api.ErrNone, "State": api.ErrNone, "Node[Leaf, 1, Leaf]": api.OK, "More[x]": api.OK,
		"do get ()": api.OK, "do put true": api.OK, "do raise 1": api.OK, "do print 1": api.OK, "do read ()": api.OK, "do peek ()": api.ErrNone, "do k 1": api.ErrNone,
		"h.put 1": api.OK, "h.peek 1": api.ErrNone, "peek.put 1": api.OK, "put.peek 1": api.ErrNone, "h.read ()": api.OK,
		"match x { }": api.ErrCases, "match x { Nil -> 0; Cons h t -> h }": api.OK, "match x { Cons h t -> h; Nil -> 0 }": api.ErrCases, "match x { Nil -> 0; Cons h -> h }": api.ErrArity, "match x { Nil -> 0; Cons h t u -> h }": api.ErrArity, "match x { Nil a -> 0; Cons h t -> h }": api.ErrArity, "match x { Nil -> 0 }": api.ErrCases, "match x { Cons h t -> h }": api.ErrCases, "match x { Nil -> 0; Cons h t -> 0; Leaf -> 0 }": api.ErrCases,
		"match x { Box -> 0; Nil -> 0 }": api.ErrNone, "match x { Nil -> 0; Box -> 0 }": api.ErrCases, "match x { Nil a -> 0; Leaf -> 1 }": api.ErrCases, "match x { Box -> 0 }": api.ErrNone, "match x { List -> 0 }": api.ErrNone, "match x { Leaf -> 0; Node a b c -> 1 }": api.OK, "match x { More l -> l }": api.OK, "match x { More -> 1 }": api.ErrArity, "match x { Leaf -> 0; Cons a b -> 1 }": api.ErrCases,
		"handle Exc 1 { return x -> x; raise u k -> 2 }": api.OK, "handle Exc 1 { return x -> x }": api.ErrCases, "handle Exc 1 { return x -> x; raise u k -> 2; get u k -> 3 }": api.ErrCases, "handle State 1 { return x -> x; get u k -> 2 }": api.ErrCases, "handle State 1 { return x -> x; get u k -> 2; put u k -> 3 }": api.OK, "shallow State 1 { return x -> x; get u k -> 2; put u k -> 3 }": api.OK, "handle State 1 { return x -> x; put u k -> 2; get u k -> 3 }": api.ErrCases, "shallow State 1 { return x -> x; put u k -> 2 }": api.ErrCases, "handle State 1 { return x -> x; get u k -> 2; set u k -> 3 }": api.ErrCases,
		"handle Foo 1 { return x -> x }": api.ErrNone, "handle Tree 1 { return x -> x }": api.ErrNone, "handle IO 1 { return x -> x; print u k -> 2; read u k -> 3 }": api.OK, "handle IO 1 { return x -> x; read u k -> 2; print u k -> 3 }": api.ErrCases, "handle IO 1 { return x -> x; print u k -> 2 }": api.ErrCases, "named h Exc 1 { return x -> x; raise u k -> 2 }": api.OK, "named h Exc 1 { return x -> x }": api.ErrCases, "named h Foo 1 { return x -> x }": api.ErrNone, "named h IO 1 { return x -> x; print u k -> 2; read u k -> 3 }": api.OK,
		"mask IO 1": api.OK, "mask Exc 1": api.OK, "mask Foo 1": api.ErrNone, "mask List 1": api.ErrNone,
		"using x [] = 1 close 2 in x": api.OK, "using x [Exc] = 1 close fun y -> () in x": api.OK, "using x [Exc, State] = 1 close 2 in x": api.OK, "using x [IO] = 1 close fun y -> () in x": api.ErrTwice, "using x [Foo, IO] = 1 close 1 in x": api.ErrNone, "using x [Exc, IO] = 1 close 1 in x": api.ErrTwice, "using x [IO, Foo] = 1 close 1 in x": api.ErrTwice, "using x [Exc, Foo] = 1 close 1 in x": api.ErrNone, "using x [Leaf] = 1 close 1 in x": api.ErrNone,
		// A node comes before its parts, and these come in order.
		"fun x -> Box": api.ErrNone, "f Box (Nil[1])": api.ErrNone, "f (Nil[1]) Box": api.ErrArity, "Cons[Box]": api.ErrArity, "Cons[Box, Nil[1]]": api.ErrNone, "Cons[Nil[1], Box]": api.ErrArity, "match Box { Nil -> 0 }": api.ErrCases, "match Box { Nil -> 0; Cons h -> Leaf[1] }": api.ErrArity, "match x { Nil -> Box; Cons h t -> Nil[1] }": api.ErrNone, "match x { Nil -> Nil[1]; Cons h t -> Box }": api.ErrArity, "match match x { } { Nil -> Box; Cons h t -> 1 }": api.ErrCases,
		"handle Exc Box { return x -> x; raise u k -> Nil[1] }": api.ErrNone, "handle Exc Nil[1] { return x -> Box; raise u k -> 1 }": api.ErrArity, "handle Exc 1 { return x -> Box; raise u k -> Nil[1] }": api.ErrNone, "handle Exc 1 { return x -> 1; raise u k -> Nil[1] }": api.ErrArity, "named h Exc 1 { return x -> match x { }; raise u k -> Box }": api.ErrCases, "handle Exc Box { return x -> x }": api.ErrCases,
		"let x = 1 in Box": api.ErrNone, "let x = match 1 { } in Box": api.ErrCases, "rec f x = Box in 1": api.ErrNone, "if 1 then Nil[1] else Box": api.ErrArity, "using x [] = Leaf[1] close Box in x": api.ErrArity, "using x [] = 1 close 2 in Box": api.ErrNone, "using x [IO] = Box close 2 in 1": api.ErrTwice, "do get Box": api.ErrNone, "do peek Nil[1]": api.ErrNone, "mask IO Box": api.ErrNone, "mask Foo (Nil[1])": api.ErrNone, "resume k Box": api.ErrNone, "1 + Box": api.ErrNone,
	}
}

// P4.2, R1: each kind of nodes, in an expression, in a definition and in main.
func TestCheckAndCheckExpr(t *testing.T) {
	for text, want := range exprCases() {
		p, e := parsed(t, head), expr(t, text)
		if got, model := decl.CheckExpr(p, e), modelNodes(p, e); got != want || model != want {
			t.Errorf("%s: CheckExpr = %d, by the model %d; want %d", text, got, model, want)
		}
		p.Main = e
		if got := decl.Check(p); got != want {
			t.Errorf("%s: Check = %d; want %d", text, got, want)
		}
		p.Main = expr(t, "match Box { }")
		p.Defs = []api.Def{{Name: "f", Body: expr(t, "Nil")}, {Name: "f", Body: e}, {Name: "g", Body: expr(t, "Nil[1]")}}
		if want == api.OK {
			want = api.ErrArity
		}
		if got := decl.Check(p); got != want {
			t.Errorf("def f = %s: Check = %d; want %d", text, got, want)
		}
		p.Defs = p.Defs[:1]
		if got := decl.Check(p); got != api.ErrCases {
			t.Errorf("Check = %d; want ErrCases", got)
		}
	}
}

// P4.2, R1: the errors of trees come first, in Check ahead of those of declarations.
func TestCheckOrder(t *testing.T) {
	twice, p := parsed(t, "data A { } data A { }"), parsed(t, head)
	_, endlessExpr := endless()
	for i, c := range []struct {
		e          api.Expr
		tree, node api.Errno
	}{
		{api.Expr{Kind: 20}, api.ErrArg, api.OK}, {api.Expr{Kind: api.Con, S: "x"}, api.ErrName, api.OK}, {api.Expr{Kind: api.Con, S: "Box", L: make([]api.Expr, 5)}, api.ErrArity, api.OK}, {endlessExpr, api.ErrSize, api.OK},
		{api.Expr{Kind: api.Handle, S: "Foo", L: []api.Expr{{Kind: api.Unit}}}, api.ErrArity, api.OK}, {api.Expr{Kind: api.Con, S: "Box", L: []api.Expr{{Kind: api.App}}}, api.ErrArity, api.OK}, {api.Expr{Kind: api.Using, L: make([]api.Expr, 3)}, api.ErrArity, api.OK}, {expr(t, "Box"), api.OK, api.ErrNone}, {expr(t, "1"), api.OK, api.OK},
	} {
		want := c.tree
		if want == api.OK {
			want = c.node
		}
		if got := decl.CheckExpr(p, c.e); got != want {
			t.Errorf("%d: CheckExpr = %d; want %d", i, got, want)
		}
		if got := decl.CheckExpr(twice, c.e); got != api.ErrTwice {
			t.Errorf("%d: CheckExpr = %d; want ErrTwice", i, got)
		}
		p.Main, twice.Main = c.e, c.e
		if got := decl.Check(p); got != want {
			t.Errorf("%d: Check = %d; want %d", i, got, want)
		}
		if want = c.tree; want == api.OK {
			want = api.ErrTwice
		}
		if got := decl.Check(twice); got != want {
			t.Errorf("%d: Check = %d; want %d", i, got, want)
		}
	}
	p.Main = api.Expr{Kind: api.Unit}
	p.Defs = []api.Def{{Name: "f", Body: expr(t, "Box")}, {Name: "F", Body: expr(t, "1")}}
	if got := decl.Check(p); got != api.ErrName {
		t.Errorf("Check = %d; want ErrName", got)
	}
}

// P4.3, R1, and, of P4.6 to P4.8, that the error of CheckType comes first.
func TestCheckType(t *testing.T) {
	p := parsed(t, head)
	endlessType, _ := endless()
	cases := map[api.Errno][]api.Type{
		api.ErrSize: {endlessType, deep(api.MaxDepth, tint), wide(api.MaxSize+1, tint)}, api.ErrArg: {{Kind: -1}, {Kind: 7}, {Kind: api.TInt, Row: api.Row{Tail: -1}}, {Kind: api.TFun, L: []api.Type{tint, tint}}, {Kind: api.TFun, L: []api.Type{tint, tint}, Row: api.Row{Tail: -2}}}, api.ErrName: {data("Int"), data("x"), param("X"), data("")}, api.ErrArity: {{Kind: api.TFun}},
	}
	for text, want := range map[string]api.Errno{
		"List Int": api.OK, "List": api.ErrArity, "List (List Foo)": api.ErrNone, "Int -> <Exc, IO> Void": api.OK, "Int": api.OK, "Bool -> Unit": api.OK, "Int -> <Foo> Foo": api.ErrNone, "Void Int": api.ErrArity, "Foo": api.ErrNone, "a": api.ErrNone, "List a": api.ErrNone, "State": api.ErrNone, "Int -> <Tree> Int": api.ErrNone,
		// That a type is closed is asked before what it uses.
		"t0": api.ErrArg, "Foo t0": api.ErrArg, "Foo (a -> t7)": api.ErrArg, "Int -> <| r1> Int": api.ErrArg, "Foo -> <Exc | r0> Int": api.ErrArg, "Int -> <Exc@1> Int": api.ErrArg, "Int -> <Foo, IO@2> Int": api.ErrArg, "List (Int -> <| r0> Int)": api.ErrArg, "List (List Foo) -> List t1": api.ErrArg,
		"List List -> Int": api.ErrArity, "Foo -> List": api.ErrNone, "List -> Foo": api.ErrArity, "List -> <Foo> Int": api.ErrNone, "Int -> <Exc, Exc, State, IO, IO> List Tree": api.OK,
	} {
		cases[want] = append(cases[want], typ(t, text))
	}
	for want, l := range cases {
		for _, x := range l {
			if want == api.OK {
				wantType(t, p, x)
				continue
			}
			e1 := decl.CheckType(p, x)
			inhabited, e2 := decl.Inhabited(p, x)
			fits, e3 := decl.Fits(p, x, api.Expr{Kind: -1})
			n, e4 := decl.Count(p, x, -1)
			values, e5 := decl.Values(p, x, api.MaxDeSize+1)
			if inhabited || fits || n != 0 || len(values) != 0 || e1 != want || e2 != want || e3 != want || e4 != want || e5 != want {
				t.Errorf("%s: %d, %d, %d, %d, %d; want %d", shownTypes(x), e1, e2, e3, e4, e5, want)
			}
		}
	}
}

// wantType checks that a type is accepted.
func wantType(t *testing.T, p api.Program, x api.Type) {
	t.Helper()
	e1 := decl.CheckType(p, x)
	_, e2 := decl.Inhabited(p, x)
	_, e3 := decl.Fits(p, x, api.Expr{Kind: api.Unit})
	if e1 != api.OK || e2 != api.OK || e3 != api.OK || modelCheckType(p, x) != api.OK {
		t.Errorf("%s: %d, %d, %d", shownTypes(x), e1, e2, e3)
	}
}

// P4.4, R8: the first of each name, in any program.
func TestFind(t *testing.T) {
	p := parsed(t, head)
	odd := api.Program{
		Data:    []api.Data{{Name: "x"}, {Cons: []api.Cons{{Name: "A"}, {Name: "B"}, {Name: "B"}, {}}}, {Cons: []api.Cons{{Name: "B"}, {Name: "c d"}}}},
		Effects: []api.Effect{{Name: "F"}, {Name: "IO", Ops: []api.Op{{Name: "q"}, {Name: "read"}, {Name: "read"}}}, {Name: "F", Ops: []api.Op{{Name: "q"}, {}}}, {Name: ""}},
		Main:    api.Expr{Kind: -5},
	}
	none := api.Program{}
	type found = struct {
		of, at int
		e      api.Errno
	}
	missing := found{0, 0, api.ErrNone}
	for i, c := range []struct {
		p            api.Program
		name         string
		con, op, eff found
	}{
		{p, "Leaf", found{2, 0, api.OK}, missing, missing}, {p, "Nil", found{0, 0, api.OK}, missing, missing}, {p, "Cons", found{0, 1, api.OK}, missing, missing}, {p, "More", found{3, 0, api.OK}, missing, missing}, {p, "List", missing, missing, missing}, {p, "", missing, missing, missing}, {p, "nil", missing, missing, missing},
		{p, "get", missing, found{0, 0, api.OK}, missing}, {p, "put", missing, found{0, 1, api.OK}, missing}, {p, "raise", missing, found{1, 0, api.OK}, missing}, {p, "print", missing, found{-1, 0, api.OK}, missing}, {p, "read", missing, found{-1, 1, api.OK}, missing}, {p, "peek", missing, missing, missing},
		{p, "State", missing, missing, found{0, 0, api.OK}}, {p, "Exc", missing, missing, found{1, 0, api.OK}}, {p, "IO", missing, missing, found{-1, 0, api.OK}}, {p, "Io", missing, missing, missing},
		{odd, "B", found{1, 1, api.OK}, missing, missing}, {odd, "", found{1, 3, api.OK}, found{2, 1, api.OK}, found{3, 0, api.OK}}, {odd, "c d", found{2, 1, api.OK}, missing, missing}, {odd, "read", missing, found{1, 1, api.OK}, missing}, {odd, "q", missing, found{1, 0, api.OK}, missing}, {odd, "print", missing, found{-1, 0, api.OK}, missing}, {odd, "IO", missing, missing, found{1, 0, api.OK}}, {odd, "F", missing, missing, found{0, 0, api.OK}},
		{none, "IO", missing, missing, found{-1, 0, api.OK}}, {none, "print", missing, found{-1, 0, api.OK}, missing}, {none, "A", missing, missing, missing},
	} {
		var con, op, eff found
		con.of, con.at, con.e = decl.FindCon(c.p, c.name)
		op.of, op.at, op.e = decl.FindOp(c.p, c.name)
		eff.of, eff.e = decl.FindEffect(c.p, c.name)
		if con != c.con || op != c.op || eff != c.eff {
			t.Errorf("%d, %q: %v, %v, %v", i, c.name, con, op, eff)
		}
	}
}

// P4.5, R1.
func TestFields(t *testing.T) {
	p := parsed(t, "data Pair a b { Pair b a; Fun (a -> <IO, State> b) (List (Pair b (List a))); Same a a a; None }"+head)
	for _, c := range []struct {
		name, args, want string
		e                api.Errno
	}{
		{"Cons", "Bool", "Bool, List Bool", api.OK}, {"Nil", "Bool", "", api.OK}, {"Node", "", "Tree, Int, Tree", api.OK}, {"Leaf", "", "", api.OK}, {"Cons", "List (List Int)", "List (List Int), List (List (List Int))", api.OK},
		{"Pair", "Int, Bool", "Bool, Int", api.OK}, {"Fun", "Int, List Bool", "Int -> <IO, State> List Bool, List (Pair (List Bool) (List Int))", api.OK}, {"Same", "Int -> Int, Unit", "Int -> Int, Int -> Int, Int -> Int", api.OK}, {"None", "Int, Int", "", api.OK},
		// The arguments are any well-formed types; their parameters are not replaced.
		{"Cons", "t3", "t3, List t3", api.OK}, {"Cons", "Int -> <Exc@2 | r2> a", "Int -> <Exc@2 | r2> a, List (Int -> <Exc@2 | r2> a)", api.OK}, {"Cons", "Foo", "Foo, List Foo", api.OK}, {"Cons", "List", "List, List List", api.OK}, {"Pair", "b, a", "a, b", api.OK}, {"Fun", "b, a", "b -> <IO, State> a, List (Pair a (List b))", api.OK}, {"Pair", "List b, a -> b", "a -> b, List b", api.OK},
		{"Cons", "", "", api.ErrArity}, {"Cons", "Int, Int", "", api.ErrArity}, {"Leaf", "Int", "", api.ErrArity}, {"Pair", "Int", "", api.ErrArity}, {"Box", "", "", api.ErrNone}, {"List", "Int", "", api.ErrNone}, {"", "", "", api.ErrNone}, {"cons", "Int", "", api.ErrNone},
	} {
		var args []api.Type
		for s := range strings.SplitSeq(c.args, ", ") {
			if s != "" {
				args = append(args, typ(t, s))
			}
		}
		l, e := decl.Fields(p, c.name, args)
		if shownTypes(l...) != c.want || e != c.e {
			t.Errorf("%s of %s: %s, %d; want %s, %d", c.name, c.args, shownTypes(l...), e, c.want, c.e)
		}
	}
	bad, large := api.Type{Kind: -1}, wide(api.MaxSize, tint)
	for i, c := range []struct {
		name string
		args []api.Type
		want api.Errno
	}{
		{"Box", []api.Type{bad}, api.ErrNone}, {"Cons", []api.Type{bad, bad}, api.ErrArity}, {"Cons", []api.Type{bad}, api.ErrArg}, {"Pair", []api.Type{data("Int"), bad}, api.ErrName}, {"Pair", []api.Type{bad, data("Int")}, api.ErrArg}, {"Pair", []api.Type{tint, {Kind: api.TFun}}, api.ErrArity}, {"Nil", []api.Type{bad}, api.ErrArg},
		{"Fun", []api.Type{large, bad}, api.ErrArg}, {"Cons", []api.Type{large}, api.ErrSize}, {"Nil", []api.Type{large}, api.OK},
	} {
		if l, e := decl.Fields(p, c.name, c.args); e != c.want || len(l) != 0 {
			t.Errorf("%d: %v, %d; want %d", i, l, e, c.want)
		}
	}
}

// P4.5, R7: how large the types may be.
func TestFieldsLimits(t *testing.T) {
	const most = api.MaxSize
	p := api.Program{Data: []api.Data{
		{Name: "Wide", Params: []string{"a", "b", "c", "d"}, Cons: []api.Cons{{Name: "Wide1", Args: []api.Type{param("a"), data("Wide", param("a"), param("b"), param("c"), param("d"))}}, {Name: "Wide2", Args: []api.Type{param("d")}}}},
		{Name: "List", Params: []string{"a"}, Cons: []api.Cons{{Name: "Deep", Args: []api.Type{deep(100, param("a"))}}, {Name: "Fun", Args: []api.Type{{Kind: api.TFun, L: []api.Type{tint, param("a")}, Row: api.Row{Tail: -1}}}}}},
	}}
	quarter := func(n int) []api.Type { return slices.Repeat([]api.Type{wide(n/4, tint)}, 4) }
	for i, c := range []struct {
		name        string
		args        []api.Type
		size, depth int // 0: ErrSize
	}{
		{"Wide2", []api.Type{tint, tint, tint, wide(most, tint)}, most, 0}, {"Wide2", []api.Type{wide(most, tint), wide(most, tint), wide(most, tint), tint}, 1, 1}, {"Wide1", quarter(most - 4), 1 + 4*((most-4)/4), 0}, {"Wide1", append(quarter(most)[:3], wide(most/4-1, tint)), most, 0}, {"Wide1", quarter(most), 0, 0}, {"Wide1", slices.Repeat([]api.Type{wide(most, tint)}, 4), 0, 0}, {"Wide1", []api.Type{wide(most-4, tint), tint, tint, tint}, most, 0}, {"Wide1", []api.Type{wide(most-3, tint), tint, tint, tint}, 0, 0},
		{"Deep", []api.Type{deep(api.MaxDepth-101, tint)}, api.MaxDepth, api.MaxDepth}, {"Deep", []api.Type{deep(api.MaxDepth-100, tint)}, 0, 0}, {"Deep", []api.Type{wide(most-100, tint)}, most, 0}, {"Deep", []api.Type{wide(most-99, tint)}, 0, 0}, {"Fun", []api.Type{deep(api.MaxDepth-2, tint)}, api.MaxDepth + 1, api.MaxDepth}, {"Fun", []api.Type{deep(api.MaxDepth-1, tint)}, 0, 0},
	} {
		l, e := decl.Fields(p, c.name, c.args)
		if c.size == 0 {
			if e != api.ErrSize || len(l) != 0 {
				t.Errorf("%d: %d; want ErrSize", i, e)
			}
			continue
		}
		if e != api.OK || len(l) == 0 {
			t.Errorf("%d: %d", i, e)
			continue
		}
		last := l[len(l)-1]
		if typeSize(last) != c.size || c.depth > 0 && typeDepth(last) != c.depth || syntax.CheckType(last) != api.OK {
			t.Errorf("%d: size %d, depth %d; want %d, %d", i, typeSize(last), typeDepth(last), c.size, c.depth)
		}
	}
}

// nest has data types that are arguments of themselves, and others that use each other.
const nest = `data Two a { Two a a }
data Nest a { End a; In (Nest (Two a)) }
data Bad a { Bad (Bad (Two a)) a }
data May a { No; May a }
data Fun { Fun (Int -> Void) }
data Use { Use (May Fun) }
data Void { }
data Dead { D1 Dead2 }
data Dead2 { D2 Dead; D3 Dead Int }
data Grow a { Stop; Grow (Grow (Two (Two a))) }
data Swap a b { Swap b (May (Swap b a)) }
data Only a b { Left a; Both a b }
`

// P4.6: types with and without values.
func TestInhabited(t *testing.T) {
	p, q := parsed(t, head), parsed(t, nest)
	chain := "data A { A B } data B { B C } data C { C D } data D { D E } data E { E F } data F { F }"
	params := "data P a b c d { P1 a b; P2 b c d; P3 (P a a a a) } data Void { }"
	for _, c := range []struct {
		p    api.Program
		text string
		want bool
	}{
		{p, "Int", true}, {p, "Bool", true}, {p, "Unit", true}, {p, "Void", false}, {p, "Loop", false}, {p, "List Void", true}, {p, "Void -> Loop", true}, {p, "List (Void -> Void)", true}, {p, "Tree", true}, {p, "List (List Loop)", true},
		{q, "Two Int", true}, {q, "Two Void", false}, {q, "Nest Int", true}, {q, "Nest Void", false}, {q, "Bad Int", false}, {q, "May (Bad Int)", true}, {q, "Two (Bad Int)", false}, {q, "Fun", true}, {q, "Use", true}, {q, "Dead", false}, {q, "Dead2", false}, {q, "Grow Void", true}, {q, "Swap Void Int", true}, {q, "Swap Int Void", false}, {q, "Only Int Void", true}, {q, "Only Void Int", false}, {q, "Two (May Void)", true}, {q, "Nest (Two (May Void))", true}, {q, "Nest (Two (Two Void))", false}, {q, "Only (Only Int Void) Void", true}, {q, "Only (Only Void Int) Int", false},
		{parsed(t, chain), "A", true}, {parsed(t, strings.Replace(chain, "F { F }", "F { }", 1)), "A", false}, {parsed(t, params), "P Int Int Void Void", true}, {parsed(t, params), "P Void Int Int Int", true}, {parsed(t, params), "P Int Void Int Int", true}, {parsed(t, params), "P Void Int Void Int", false}, {parsed(t, params), "P Void Void Int Int", false}, {parsed(t, params), "P Int Void Void Void", true},
	} {
		is, e := decl.Inhabited(c.p, typ(t, c.text))
		if model := modelInhabited(c.p, typ(t, c.text), 7, map[string]bool{}); is != c.want || model != c.want || e != api.OK {
			t.Errorf("%s: %t, by the model %t, %d", c.text, is, model, e)
		}
	}
}

// P4.7, R1: values, what is none, and the order of errors.
func TestFits(t *testing.T) {
	p, q := parsed(t, head), parsed(t, nest)
	for _, c := range []struct {
		p       api.Program
		typ, of string
		want    bool
	}{
		{p, "Int", "1", true}, {p, "Int", "(-5)", true}, {p, "Int", "999999999", true}, {p, "Int", "true", false}, {p, "Int", "()", false}, {p, "Int", "x", false}, {p, "Int", "1 + 1", false}, {p, "Int", "Nil", false}, {p, "Bool", "true", true}, {p, "Bool", "false", true}, {p, "Bool", "1", false}, {p, "Bool", "Nil", false}, {p, "Unit", "()", true}, {p, "Unit", "0", false}, {p, "Unit", "Leaf", false},
		{p, "List Int", "Nil", true}, {p, "List Int", "Cons[(-5), Nil]", true}, {p, "List Bool", "Cons[1, Nil]", false}, {p, "List Bool", "Cons[true, Cons[1, Nil]]", false}, {p, "List Bool", "Cons[true, Cons[false, Nil]]", true}, {p, "List (List Int)", "Cons[Cons[1, Nil], Cons[Nil, Nil]]", true}, {p, "List (List Int)", "Cons[1, Nil]", false}, {p, "List Int", "Leaf", false}, {p, "List Int", "Cons[1, Leaf]", false}, {p, "List Int", "1", false}, {p, "List Int", "Cons[1 + 1, Nil]", false}, {p, "List Int", "(fun x -> x) Nil", false},
		{p, "Tree", "Leaf", true}, {p, "Tree", "Nil", false}, {p, "Tree", "Node[Leaf, 7, Node[Leaf, 1, Leaf]]", true}, {p, "Tree", "Node[Leaf, true, Leaf]", false}, {p, "Tree", "Node[Leaf, 1, 1]", false},
		// What is not in order is no value, either.
		{p, "List Int", "Cons[1]", false}, {p, "List Int", "Cons[1, Nil, Nil]", false}, {p, "List Int", "Nil[1]", false}, {p, "List Int", "Box", false}, {p, "Tree", "Node", false}, {p, "Int", "match 1 { }", false},
		// Functions are no such values, but types that have functions may have some.
		{p, "Int -> Int", "fun x -> x", false}, {p, "List (Int -> Int)", "Nil", true}, {p, "List (Int -> Int)", "Cons[fun x -> x, Nil]", false}, {p, "Int -> Int", "1", false}, {q, "May Fun", "No", true}, {q, "May Fun", "May[Fun[fun x -> x]]", false}, {q, "Use", "Use[No]", true},
		{p, "Void", "Nil", false}, {p, "Loop", "More[Leaf]", false}, {q, "Swap Int Bool", "Swap[true, May[Swap[1, No]]]", true}, {q, "Swap Int Bool", "Swap[1, No]", false}, {q, "Swap Int Bool", "Swap[true, May[Swap[true, No]]]", false}, {q, "Only Int Void", "Left[1]", true}, {q, "Only Int Bool", "Both[1, 1]", false},
		{q, "Nest Int", "In[In[End[Two[Two[1, 2], Two[3, 4]]]]]", true}, {q, "Nest Int", "In[End[1]]", false}, {q, "Nest Int", "In[In[End[Two[1, 2]]]]", false}, {q, "Nest (Two Int)", "In[End[Two[Two[1, 2], Two[3, 4]]]]", true}, {q, "Bad Int", "Bad[1, 1]", false},
		// Other nodes may have the name of a constructor.
		{q, "May Int", "May[1]", true}, {q, "May Int", "mask May 1", false}, {q, "May Int", "handle May 1 { return x -> x }", false}, {q, "May Int", "named h May 1 { return x -> x }", false}, {q, "Two Int", "Two[mask May 1, 1]", false},
	} {
		is, e := decl.Fits(c.p, typ(t, c.typ), expr(t, c.of))
		if model := modelFits(c.p, typ(t, c.typ), expr(t, c.of)); is != c.want || model != c.want || e != api.OK {
			t.Errorf("%s: %s: %t, by the model %t, %d", c.typ, c.of, is, model, e)
		}
	}
	_, endlessExpr := endless()
	for i, c := range []struct {
		e    api.Expr
		want api.Errno
	}{{api.Expr{Kind: -1}, api.ErrArg}, {endlessExpr, api.ErrSize}, {api.Expr{Kind: api.Con}, api.ErrName}, {api.Expr{Kind: api.App}, api.ErrArity}, {api.Expr{Kind: api.Int, N: api.MaxInt + 1}, api.ErrArg}} {
		if is, e := decl.Fits(p, tint, c.e); is || e != c.want {
			t.Errorf("%d: %t, %d; want %d", i, is, e, c.want)
		}
	}
}

// P4.7, P0.6: values of types that get larger with each constructor, beyond the size of any type.
func TestFitsLargeTypes(t *testing.T) {
	p := parsed(t, nest)
	for _, n := range []int{1, 5, 12, api.MaxDepth - 1} {
		e := expr(t, "Stop")
		for range n {
			e = api.Expr{Kind: api.Con, S: "Grow", L: []api.Expr{e}}
		}
		if is, err := decl.Fits(p, typ(t, "Grow Int"), e); !is || err != api.OK {
			t.Errorf("%d: %t, %d", n, is, err)
		}
		e.L = []api.Expr{e.L[0], e.L[0]}
		if is, err := decl.Fits(p, typ(t, "Grow Int"), e); n <= 12 && is || n <= 12 && err != api.OK {
			t.Errorf("%d: %t, %d", n, is, err)
		}
	}
	full := expr(t, "1")
	for range 9 {
		full = api.Expr{Kind: api.Con, S: "Two", L: []api.Expr{full, full}}
	}
	for n := range 12 {
		e := api.Expr{Kind: api.Con, S: "End", L: []api.Expr{full}}
		for range n {
			e = api.Expr{Kind: api.Con, S: "In", L: []api.Expr{e}}
		}
		if is, err := decl.Fits(p, typ(t, "Nest Int"), e); is != (n == 9) || err != api.OK {
			t.Errorf("%d: %t, %d", n, is, err)
		}
	}
}

// P4.8, R1: the errors of Count and Values.
func TestCountErrors(t *testing.T) {
	p, q := parsed(t, head), parsed(t, nest)
	for i, c := range []struct {
		p    api.Program
		typ  string
		most int
		want api.Errno
	}{
		{p, "Foo", -1, api.ErrNone}, {p, "Int", -1, api.ErrArg}, {p, "Int", api.MaxDeSize + 1, api.ErrArg}, {p, "Int", math.MinInt, api.ErrArg}, {p, "Int", math.MaxInt, api.ErrArg}, {p, "Int -> Int", -1, api.ErrArg}, {p, "Int -> Int", 8, api.ErrArg}, {p, "Int", 0, api.OK}, {p, "Int", api.MaxDeSize, api.OK},
		{p, "Int -> Int", 0, api.ErrType}, {p, "Void -> Void", 7, api.ErrType}, {p, "List (Int -> Int)", 3, api.ErrType}, {p, "List (List (Int -> Int))", 1, api.ErrType}, {q, "Fun", 2, api.ErrType}, {q, "May Fun", 2, api.ErrType}, {q, "Use", 2, api.ErrType}, {q, "May Use", 1, api.ErrType}, {q, "Two (Only Int (Two Use))", 1, api.ErrType}, {q, "Dead", 2, api.OK}, {q, "Swap Int Bool", 2, api.OK},
	} {
		n, e := decl.Count(c.p, typ(t, c.typ), c.most)
		l, f := decl.Values(c.p, typ(t, c.typ), c.most)
		if e != c.want || f != c.want || c.want != api.OK && (n != 0 || len(l) != 0) {
			t.Errorf("%d: %s, %d: %d, %d; %v, %d; want %d", i, c.typ, c.most, n, e, l, f, c.want)
		}
	}
}

// P4.8: which values there are, in which order.
func TestValues(t *testing.T) {
	p, q := parsed(t, head), parsed(t, nest)
	mixed := parsed(t, "data M { M1 Int Bool; M2; M3 M; M4 Unit; M0 } data V { } data W { W1 V M; W2 M V; W3 M }")
	for _, c := range []struct {
		p    api.Program
		typ  string
		most int
		want string
	}{
		{p, "Int", 0, ""}, {p, "Int", 1, "0, 1"}, {p, "Int", 7, "0, 1"}, {p, "Bool", 1, "false, true"}, {p, "Bool", 0, ""}, {p, "Unit", 1, "()"}, {p, "Void", 7, ""}, {p, "Loop", 7, ""}, {p, "List Void", 7, "Nil"}, {p, "List Int", 0, ""}, {p, "List Int", 1, "Nil"}, {p, "List Int", 2, "Nil"},
		{p, "List Bool", 3, "Nil, Cons[false, Nil], Cons[true, Nil]"}, {p, "List Bool", 5, "Nil, Cons[false, Nil], Cons[true, Nil], Cons[false, Cons[false, Nil]], Cons[false, Cons[true, Nil]], Cons[true, Cons[false, Nil]], Cons[true, Cons[true, Nil]]"}, {p, "List (List Unit)", 5, "Nil, Cons[Nil, Nil], Cons[Nil, Cons[Nil, Nil]], Cons[Cons[(), Nil], Nil]"},
		{p, "Tree", 4, "Leaf, Node[Leaf, 0, Leaf], Node[Leaf, 1, Leaf]"}, {p, "Tree", 7, "Leaf, Node[Leaf, 0, Leaf], Node[Leaf, 1, Leaf], Node[Leaf, 0, Node[Leaf, 0, Leaf]], Node[Leaf, 0, Node[Leaf, 1, Leaf]], Node[Leaf, 1, Node[Leaf, 0, Leaf]], Node[Leaf, 1, Node[Leaf, 1, Leaf]], Node[Node[Leaf, 0, Leaf], 0, Leaf], Node[Node[Leaf, 0, Leaf], 1, Leaf], Node[Node[Leaf, 1, Leaf], 0, Leaf], Node[Node[Leaf, 1, Leaf], 1, Leaf]"},
		{mixed, "M", 3, "M2, M0, M3[M2], M3[M0], M4[()], M1[0, false], M1[0, true], M1[1, false], M1[1, true], M3[M3[M2]], M3[M3[M0]], M3[M4[()]]"}, {mixed, "W", 2, "W3[M2], W3[M0]"}, {mixed, "V", 7, ""},
		{q, "Nest Unit", 7, "End[()], In[End[Two[(), ()]]]"}, {q, "Nest Int", 6, "End[0], End[1], In[End[Two[0, 0]]], In[End[Two[0, 1]]], In[End[Two[1, 0]]], In[End[Two[1, 1]]]"}, {q, "Grow Int", 4, "Stop, Grow[Stop], Grow[Grow[Stop]], Grow[Grow[Grow[Stop]]]"}, {q, "May (Bad Int)", 7, "No"}, {q, "Swap Unit Bool", 6, "Swap[false, No], Swap[true, No], Swap[false, May[Swap[(), No]]], Swap[true, May[Swap[(), No]]]"},
	} {
		n, e := decl.Count(c.p, typ(t, c.typ), c.most)
		l, f := decl.Values(c.p, typ(t, c.typ), c.most)
		var texts []string
		for _, x := range l {
			texts = append(texts, shown(x))
		}
		if got := strings.Join(texts, ", "); got != c.want || n != len(l) || e != api.OK || f != api.OK {
			t.Errorf("%s, %d: %d, %d; %s, %d", c.typ, c.most, n, e, got, f)
		}
	}
}

// P4.8, R7: many values, as many as there may be, and one more.
func TestManyValues(t *testing.T) {
	limit := parsed(t, "data D { D0; D1; D2; D3; D4 } data P a b { P a b } data Q { Q1 D D D; Q2 (P D (P D D)); Q3 (P (P D D) D); Q4 (P (P D D) D); Q5 D } data R { R1 Q; R2 } data W { W D D D D }")
	deepest := parsed(t, "data D { A D; B D; C D; E D; F D; G D; H D; I }")
	full := parsed(t, "data D { A; B; C; E; F; G; H; I } data W { W D D D D }")
	bush := param("a")
	for range 5 {
		bush = data("Wide", slices.Repeat([]api.Type{bush}, 4)...)
	}
	grow := api.Program{Data: []api.Data{{Name: "Wide", Params: []string{"a", "b", "c", "d"}, Cons: []api.Cons{{Name: "N"}, {Name: "K", Args: []api.Type{bush}}}}}}
	for _, c := range []struct {
		p         api.Program
		typ       string
		most      int
		want      int
		ofValues  api.Errno
		lastValue string
	}{
		{limit, "Q", 6, 5 + 125 + 3*125, api.ErrSize, ""}, {limit, "Q", 5, 5 + 125, api.OK, "Q1[D4, D4, D4]"}, {limit, "W", 5, 625, api.ErrSize, ""}, {limit, "W", 4, 0, api.OK, ""}, {limit, "R", 7, 1 + 5 + 500, api.ErrSize, ""}, {limit, "P (P D D) (P Int Int)", 7, 25 * 4, api.OK, "P[P[D4, D4], P[1, 1]]"}, {limit, "P D (P D (P D Int))", 7, 250, api.OK, "P[D4, P[D4, P[D4, 1]]]"}, {limit, "P Bool (P Bool (P D (P D D)))", 7, 0, api.OK, ""}, {limit, "P D (P D (P D Bool))", 7, 250, api.OK, "P[D4, P[D4, P[D4, true]]]"},
		{deepest, "D", 4, 1 + 7 + 49 + 343, api.OK, "H[H[H[I]]]"}, {deepest, "D", 7, 137257, api.ErrSize, ""}, {full, "W", 7, 4096, api.ErrSize, ""}, {grow, "Wide Int Int Int Int", 7, 7, api.OK, "K[K[K[K[K[K[N]]]]]]"},
	} {
		n, e := decl.Count(c.p, typ(t, c.typ), c.most)
		l, f := decl.Values(c.p, typ(t, c.typ), c.most)
		if n != c.want || e != api.OK || f != c.ofValues {
			t.Errorf("%s, %d: %d, %d; Values: %d, %d", c.typ, c.most, n, e, len(l), f)
		}
		if want := n; f == api.OK && len(l) != want || f != api.OK && len(l) != 0 {
			t.Errorf("%s, %d: %d values; Count = %d", c.typ, c.most, len(l), n)
		}
		if len(l) > 0 && shown(l[len(l)-1]) != c.lastValue {
			t.Errorf("%s, %d: the last value is %s", c.typ, c.most, shown(l[len(l)-1]))
		}
	}
	exact := parsed(t, "data D { D0; D1; D2; D3; D4 } data E { E1 D D D; E2 D D D; E3 D D D; E4 D D D } data F { F1 D D D; F2 D D D; F3 D D D; F4 D D D; F5 }")
	l, e := decl.Values(exact, typ(t, "E"), 4)
	m, f := decl.Values(exact, typ(t, "F"), 4)
	if len(l) != api.MaxDeValues || e != api.OK || len(m) != 0 || f != api.ErrSize {
		t.Errorf("%d, %d; %d, %d", len(l), e, len(m), f)
	}
}
