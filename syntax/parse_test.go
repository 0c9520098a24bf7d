package syntax_test

import (
	"reflect"
	"strings"
	"testing"

	"reprise/api"
	"reprise/lexer"
	"reprise/syntax"
)

// wantExpr checks what a text is parsed as.
func wantExpr(t *testing.T, text string, want api.Expr) {
	t.Helper()
	if e, at, err := syntax.ParseExpr(text); !reflect.DeepEqual(e, want) || at != 0 || err != api.OK {
		t.Errorf("%q: %v, %d, %d; want %v", text, e, at, err, want)
	}
}

// wantError checks that an expression is refused at a byte.
func wantError(t *testing.T, text string, want int, wantErr api.Errno) {
	t.Helper()
	if e, at, err := syntax.ParseExpr(text); !reflect.DeepEqual(e, api.Expr{}) || at != want || err != wantErr {
		t.Errorf("%q: %v, %d, %d; want nothing, %d, %d", text, e, at, err, want, wantErr)
	}
}

// P2.3: the trees of expressions.
func TestParseExpr(t *testing.T) {
	a, b, c, x := v("a"), v("b"), v("c"), v("x")
	for text, want := range map[string]api.Expr{
		"x": x, "0": num(0), "999999999": num(999999999), "(-5)": num(-5), "( - 999999999 )": num(-999999999), "(-0)": num(0), "true": boolean(1), "false": boolean(0), "()": unit(), "( )": unit(), "(((x)))": x, "((-1))": num(-1),
		"1 + 2 * x < y": prim("<", prim("+", num(1), prim("*", num(2), x)), v("y")), "f x y": app(app(v("f"), x), v("y")), "do op x y": app(do("op", x), v("y")), "f (x y)": app(v("f"), app(x, v("y"))),
		"a - b - c": prim("-", prim("-", a, b), c), "a - (b - c)": prim("-", a, prim("-", b, c)), "a + b - c + x": prim("+", prim("-", prim("+", a, b), c), x), "a * b * c": prim("*", prim("*", a, b), c), "a * b + c": prim("+", prim("*", a, b), c),
		"a + b * c": prim("+", a, prim("*", b, c)), "a == b": prim("==", a, b), "a < b": prim("<", a, b), "(a < b) < c": prim("<", prim("<", a, b), c), "a + b == b * c": prim("==", prim("+", a, b), prim("*", b, c)), "f a + f b": prim("+", app(v("f"), a), app(v("f"), b)),
		"f -1": prim("-", v("f"), num(1)), "f (-1)": app(v("f"), num(-1)), "1-1": prim("-", num(1), num(1)), "Cons[1, Nil]": con("Cons", num(1), con("Nil")), "Cons (1)": app(con("Cons"), num(1)), "Cons [1]": con("Cons", num(1)), "C[a, b, c, x]": con("C", a, b, c, x),
		"C D": app(con("C"), con("D")), "C[a] D[b]": app(con("C", a), con("D", b)), "C[a < b, fun x -> x]": con("C", prim("<", a, b), fun("x", x)), "Int": con("Int"),
		"fun x -> x + 1 < 2": fun("x", prim("<", prim("+", x, num(1)), num(2))), "fun a -> fun b -> c": fun("a", fun("b", c)), "let x = a in b": let("x", a, b), "let x = let x = a in b in c": let("x", let("x", a, b), c), "rec a b = c in x": rec("a", "b", c, x),
		"if a then b else c + 1": cond(a, b, prim("+", c, num(1))), "if a then if b then c else x else a": cond(a, cond(b, c, x), a), "(if a then b else c) x": app(cond(a, b, c), x),
		"using x [] = a close b in c": using(names("x"), a, b, c), "using x [E] = a close b in c": using(names("x", "E"), a, b, c), "using x [E, F] = fun x -> x close fun x -> x in fun x -> x": using(names("x", "E", "F"), fun("x", x), fun("x", x), fun("x", x)),
		"do op a": do("op", a), "do op do_ a": app(do("op", v("do_")), a), "do op ()": do("op", unit()), "mask E a b": app(mask("E", a), b), "mask E C[a]": mask("E", con("C", a)), "resume k 1": resume("k", num(1)), "resume k a b": app(resume("k", a), b), "drop k": drop("k"), "drop k a": app(drop("k"), a),
		"h.op a": at("h", "op", a), "h . op a b": app(at("h", "op", a), b), "a + h.op b * c": prim("+", a, prim("*", at("h", "op", b), c)), "f (h.op a)": app(v("f"), at("h", "op", a)), "h.op (h.op a)": at("h", "op", at("h", "op", a)),
		"match a { }": match(a), "match f a { C -> b; D x c -> c }": match(app(v("f"), a), arm("C", b), arm("D", c, "x", "c")), "match a { C -> b } c": app(match(a, arm("C", b)), c), "match a { C -> fun x -> x; D -> b }": match(a, arm("C", fun("x", x)), arm("D", b)),
		"handle E a { return x -> b }": handle(0, "E", a, ret(b)), "shallow E f a { return x -> b; op a c -> x }": handle(1, "E", app(v("f"), a), ret(b), arm("op", x, "a", "c")), "handle E F[a] { return x -> x }": handle(0, "E", con("F", a), ret(x)), "handle E F { return x -> x }": handle(0, "E", con("F"), ret(x)),
		"named h E a { return x -> x; op a c -> b; po a c -> c }": named("h", "E", a, ret(x), arm("op", b, "a", "c"), arm("po", c, "a", "c")), "handle E handle F a { return x -> x } { return x -> x }": handle(0, "E", handle(0, "F", a, ret(x)), ret(x)),
		"# text\n a # b": a, "\t\n(\na#)\n)": a, "f#\n#\n x": app(v("f"), x),
	} {
		wantExpr(t, text, want)
	}
}

// P2.3: where an expression is malformed, and what is wrong with its tree.
func TestParseExprErrors(t *testing.T) {
	for text, at := range map[string]int{
		"": 0, " ": 1, "# a": 3, "let x = 1": 9, "let x = 1  ": 11, "a . b": 5, "a < b < c": 6, "a == b == c": 7, "a == b < c": 7, "(1": 2, "f )": 2, "(h).op 1": 3, "1 + ": 4, "1 +": 3, "fun X -> 1": 4, "- 5": 0, "+": 0, "1 + * 2": 4, "1 + - 2": 4,
		"(- 5 + 1)": 5, "(-x)": 2, "(--1)": 2, "(-": 2, "(-5": 3, "(1 2": 4, "(,)": 1, "f.": 2, "f.X": 2, "f.g": 3, "f g.h x": 3, "f . g . h": 6, "X.op 1": 1, "1.op 2": 1, "().op": 2, "(h).op": 3, "h.1": 2, "h.op fun x -> x": 5, "h.op do x 1": 5,
		"Cons[": 5, "Cons[]": 5, "Cons[1": 6, "Cons[1,": 7, "Cons[1,]": 7, "Cons[1 2": 8, "Cons[1; 2]": 6, "Cons]": 4, "x[1]": 1, "C[1][2]": 4, "C D E[1]]": 8,
		"fun": 3, "fun x": 5, "fun x y -> 1": 6, "fun x = 1": 6, "fun x ->": 8, "fun -> 1": 4, "fun in -> 1": 4, "f fun x -> x": 2, "1 + fun x -> x": 4, "let": 3, "let x": 5, "let x -> 1": 6, "let x = 1 in": 12, "let x = in 1": 8, "let x y = 1 in 2": 6, "let X = 1 in 2": 4, "f let x = 1 in x": 2,
		"rec f = 1 in 2": 6, "rec f x y = 1 in 2": 8, "rec f x = 1": 11, "if a then b": 11, "if a else b": 5, "if then": 3, "if a then b else": 16, "1 < if a then b else c": 4, "in": 0, "then": 0, "else": 0, "data": 0, "def x = 1": 0, "main 1": 0, "return": 0, "once": 0, "close": 0, "effect": 0, "=": 0, "->": 0, "{": 0, "}": 0,
		"do": 2, "do X 1": 3, "do op": 5, "do op do op 1": 6, "do op fun x -> x": 6, "f do op 1": 2, "do op -1": 6, "do 1": 3, "mask e 1": 5, "mask E": 6, "mask E drop k": 7, "resume K 1": 7, "resume k": 8, "resume k resume k 1": 9, "drop": 4, "drop K": 5, "drop (k)": 5, "f drop k": 2, "drop k.op 1": 6,
		"match x": 7, "match { }": 6, "match x {": 9, "match x { x -> 1 }": 10, "match x { C }": 12, "match x { C -> }": 15, "match x { C -> 1": 16, "match x { C -> 1; }": 18, "match x { C -> 1 D -> 2 }": 19, "match x { C X -> 1 }": 12, "match x { ; }": 10, "match x { C = 1 }": 12, "match x { return x -> 1 }": 10,
		"handle E 1 { op x k -> 1 }": 13, "handle e 1 { }": 7, "handle E { return x -> x }": 9, "handle E 1": 10, "handle E 1 { return x -> 1; }": 28, "handle E 1 { return x -> 1; return x -> 1 }": 28, "handle E 1 { return x -> 1; Op x k -> 1 }": 28, "handle E 1 { return X -> 1 }": 20, "handle E 1 { return x = 1 }": 22,
		"handle E 1 { return x -> 1, op x k -> 1 }": 26, "shallow E": 9, "shallow x": 8, "named E 1 { }": 6, "named h e 1 { }": 8, "named h E 1": 11, "named h 1 { }": 8, "handle E 1 { } . x": 15, "handle E 1 { return x -> 1; op x k y Z -> 1 }": 37,
		"using X [] = 1 close 2 in 3": 6, "using x = 1 close 2 in 3": 8, "using x [ = 1": 10, "using x [e] = 1": 9, "using x [E,] = 1": 11, "using x [E F] = 1": 11, "using x [E] 1": 12, "using x [] = 1 in 2": 15, "using x [] = 1 close 2": 22, "using x [] = 1 close 2 in": 25, "using x [,] = 1 close 2 in 3": 9,
		"1 )": 2, "x ]": 2, "x ,": 2, "x }": 2, "x ; y": 2, "x : y": 2, "x = y": 2, "x -> y": 2, "x | y": 2, "x @ 1": 2, "x > y": 2, "x in": 2, "x main": 2, "x < ": 4, "x < < y": 4, "x = = y": 2,
	} {
		wantError(t, text, at, api.ErrText)
	}
	for text, want := range map[string]api.Errno{
		"handle E 1 { }": api.ErrArity, "named h E 1 { }": api.ErrArity, "rec f f = 1 in 2": api.ErrTwice, "match x { A -> 1; A -> 2 }": api.ErrTwice, "handle E 1 { return x -> 1; op x -> 2 }": api.ErrArity, "using x [A, A] = 1 close 2 in 3": api.ErrTwice, "C[1, 2, 3, 4, 5]": api.ErrArity,
		"handle E 1 { return -> 1 }": api.ErrArity, "handle E 1 { return x y -> 1 }": api.ErrArity, "match x { A a a -> 1 }": api.ErrTwice, "match x { A a b c d e -> 1 }": api.ErrArity, "f (rec f f = 1 in 2) C[1, 2, 3, 4, 5]": api.ErrTwice, "using x [A, B, C, D, E, F, G, H, I, J, K, L, M] = 1 close 2 in 3": api.ErrArity,
		"1" + strings.Repeat(" + 1", 200): api.ErrSize, strings.Repeat("fun x -> ", 200) + "1": api.ErrSize, "handle E 1 { } + rec f f = 1 in 2": api.ErrText,
	} {
		at := 0
		if want == api.ErrText {
			at = 17
		}
		wantError(t, text, at, want)
	}
}

// P2.3, R1: the error of Lex comes first, with its offset.
func TestParseLex(t *testing.T) {
	for text, at := range map[string]int{"let x = $": 8, "a . b $": 6, ") 01": 2, "x abcdefghijklm": 2, "1000000000": 0, "handle E 1 { } é": 15} {
		wantError(t, text, at, api.ErrText)
		if p, at2, e := syntax.Parse(text); !reflect.DeepEqual(p, api.Program{}) || at2 != at || e != api.ErrText {
			t.Errorf("Parse(%q): %d, %d", text, at2, e)
		}
		if x, at2, e := syntax.ParseType(text); !reflect.DeepEqual(x, api.Type{}) || at2 != at || e != api.ErrText {
			t.Errorf("ParseType(%q): %d, %d", text, at2, e)
		}
	}
	for _, text := range []string{")" + strings.Repeat(" ", 30000), "$" + strings.Repeat(" ", 30000)} {
		wantError(t, text, 0, api.ErrSize)
		if _, at, e := syntax.Parse(text); at != 0 || e != api.ErrSize {
			t.Errorf("Parse: %d, %d", at, e)
		}
		if _, at, e := syntax.ParseType(text); at != 0 || e != api.ErrSize {
			t.Errorf("ParseType: %d, %d", at, e)
		}
	}
	wantExpr(t, "x"+strings.Repeat(" ", 29999), v("x"))
	wantError(t, ")"+strings.Repeat(" ", 29999), 0, api.ErrText)
}

// P2.3: types.
func TestParseType(t *testing.T) {
	list := data("List", param("a"))
	for text, want := range map[string]api.Type{
		"Int": tint, "Bool": tbool, "Unit": tunit, "t0": tvar(0), "t10": tvar(10), "t999999999": tvar(999999999), "t1000000000": param("t1000000000"), "t01": param("t01"), "t": param("t"), "tx": param("tx"), "t1x": param("t1x"), "t_1": param("t_1"), "t00": param("t00"), "s1": param("s1"), "r1": param("r1"), "a": param("a"), "T1": data("T1"),
		"List a": list, "List (List a)": data("List", list), "(List t1)": data("List", tvar(1)), "((Int))": tint, "Pair a Int": data("Pair", param("a"), tint), "P A (B C) t0": data("P", data("A"), data("B", data("C")), tvar(0)), "P (Int) Int": data("P", tint, tint),
		"Int -> Int": pure(tint, tint), "Int -> Int -> Bool": pure(tint, pure(tint, tbool)), "(Int -> Int) -> Int": pure(pure(tint, tint), tint), "List a -> List a": pure(list, list), "List (Int -> Int)": data("List", pure(tint, tint)), "(List a) -> a": pure(list, param("a")),
		"Unit -> <> Unit": pure(tunit, tunit), "Unit -> < > Unit": pure(tunit, tunit), "Unit -> <| r0> Unit": arrow(tunit, row(0), tunit), "Unit-><|r0>Unit": arrow(tunit, row(0), tunit), "Int -> <E, F | r2> t0": arrow(tint, row(2, label("E", 0), label("F", 0)), tvar(0)),
		"Unit -> <E@3, E> Int": arrow(tunit, row(-1, label("E", 3), label("E", 0)), tint), "Unit -> <E @ 999999999 | r999999999> Int": arrow(tunit, row(999999999, label("E", 999999999)), tint), "Int -> <E> Int -> <F> Int": arrow(tint, row(-1, label("E", 0)), arrow(tint, row(-1, label("F", 0)), tint)),
		"Int -> <Int> Int": arrow(tint, row(-1, label("Int", 0)), tint),
	} {
		if x, at, e := syntax.ParseType(text); !reflect.DeepEqual(x, want) || at != 0 || e != api.OK {
			t.Errorf("%q: %v, %d, %d; want %v", text, x, at, e, want)
		}
	}
	for text, want := range map[string]int{
		"": 0, "Int ->": 6, "Int Int": 4, "Bool a": 5, "Unit (Int)": 5, "a b": 2, "t0 Int": 3, "(List) a": 7, "(Int": 4, "()": 1, "List (": 6, "List ()": 6, "-> Int": 0, "Int -> -> Int": 7, "Int <E> -> Int": 4, "<E> Int": 0, "Int, Int": 3, "1": 0, "fun": 0, "Int )": 4,
		"Unit -> <E | x> Unit": 13, "Unit -> <E@0> Unit": 11, "Unit -> <E | r01> Int": 13, "Unit -> <E | r> Int": 13, "Unit -> <E | t1> Int": 13, "Unit -> <E | r1000000000> Int": 13, "Unit -> <E | R1> Int": 13, "Unit -> <E | 1> Int": 13, "Unit -> <E | > Int": 13, "Unit -> <E |": 12, "Unit -> <E": 10, "Unit -> <E>": 11, "Unit -> <E |r1": 14, "Unit -> <E | r1, F> Int": 15,
		"Unit -> <E,> Int": 11, "Unit -> <E, | r1> Int": 12, "Unit -> <E F> Int": 11, "Unit -> <e> Int": 9, "Unit -> <,> Int": 9, "Unit -> <E@> Int": 11, "Unit -> <E@x> Int": 11, "Unit -> <E@-1> Int": 11, "Unit -> <E@@1> Int": 11, "Unit -> <E@1@2> Int": 12, "Unit -> <@1> Int": 9, "Unit -> <E List> Int": 11, "Unit -> <(E)> Int": 9, "Unit -> <E@": 11, "Unit -> <E> <F> Int": 12, "t0 @ 1": 3, "List @": 5, "Int | r0": 4,
	} {
		if x, at, e := syntax.ParseType(text); !reflect.DeepEqual(x, api.Type{}) || at != want || e != api.ErrText {
			t.Errorf("%q: %v, %d, %d; want %d", text, x, at, e, want)
		}
	}
	for text, want := range map[string]api.Errno{
		"P a b c d e": api.ErrArity, strings.Repeat("Int -> ", 200) + "Int": api.ErrSize, "Int -> <" + strings.Repeat("E, ", 24) + "E> Int": api.ErrSize, "P a b c d (P a b c d e": api.ErrText,
	} {
		at := 0
		if want == api.ErrText {
			at = len(text)
		}
		if x, got, e := syntax.ParseType(text); !reflect.DeepEqual(x, api.Type{}) || got != at || e != want {
			t.Errorf("%q: %v, %d, %d; want %d, %d", text, x, got, e, at, want)
		}
	}
}

// P2.3: programs.
func TestParse(t *testing.T) {
	text := "data A { } data List a { Nil; Cons a (List a) } # lists\ndata P t1 b { P t1 (b -> <E, IO> Int) List Int; Int Int }\n" +
		"effect N { } effect E { a : Int -> List Int; once b : (Int -> List (List Int)) -> (a) ; c : t0 -> List (A) }\ndef x = 1 def f = fun x -> x\nmain f x"
	want := api.Program{
		Data: []api.Data{
			{Name: "A"}, {Name: "List", Params: names("a"), Cons: []api.Cons{{Name: "Nil"}, {Name: "Cons", Args: []api.Type{param("a"), data("List", param("a"))}}}},
			{Name: "P", Params: names("t1", "b"), Cons: []api.Cons{{Name: "P", Args: []api.Type{param("t1"), arrow(param("b"), row(-1, label("E", 0), label("IO", 0)), tint), data("List"), tint}}, {Name: "Int", Args: []api.Type{tint}}}},
		},
		Effects: []api.Effect{{Name: "N"}, {Name: "E", Ops: []api.Op{
			{Name: "a", Arg: tint, Res: data("List", tint)}, {Name: "b", Arg: pure(tint, data("List", data("List", tint))), Res: param("a"), Once: true}, {Name: "c", Arg: param("t0"), Res: data("List", data("A"))},
		}}},
		Defs: []api.Def{{Name: "x", Body: num(1)}, {Name: "f", Body: fun("x", v("x"))}},
		Main: app(v("f"), v("x")),
	}
	if p, at, e := syntax.Parse(text); !reflect.DeepEqual(p, want) || at != 0 || e != api.OK {
		t.Errorf("%v, %d, %d", p, at, e)
	}
	if p, at, e := syntax.Parse("main 1"); !reflect.DeepEqual(p, api.Program{Main: num(1)}) || at != 0 || e != api.OK {
		t.Errorf("%v, %d, %d", p, at, e)
	}
	for text, want := range map[string]int{
		"": 0, "main": 4, "1": 0, "main 1 main 2": 7, "main 1 2 )": 9, "def x = 1": 9, "def X = 1 main 1": 4, "def x y = 1 main 1": 6, "def x = main 1": 8, "def x = 1 data A { } main 1": 10, "def x = 1 effect A { } main 1": 10, "effect A { } data B { } main 1": 13, "main 1 def x = 1": 7, "def x = 1 1 = 2": 12,
		"data": 4, "data a { }": 5, "data A": 6, "data A B { }": 7, "data A 1 { }": 7, "data A { x }": 9, "data A { X; }": 12, "data A { ; }": 9, "data A { X, Y }": 10, "data A { X": 10, "data A { X Int -> Int }": 15, "data A { X List Int (Int }": 25, "data A { X } 1": 13, "data A { X ( ) }": 13, "data A { once X }": 9,
		"data A { X (t -> <E@1> t) } main 1": 19, "data A { X (t -> <E | r1> t) } main 1": 20, "data A { X (t -> <| r1> t) } main 1": 18, "effect E { a : (Int -> <E@1> Int) -> Int } main 1": 25, "effect E { a : (Int -> <E | r0> Int) -> Int } main 1": 26, "data A { X (t -> <E,> t) } main 1": 20,
		"effect": 6, "effect e { }": 7, "effect E a { }": 9, "effect E { A : Int -> Int }": 11, "effect E { a Int -> Int }": 13, "effect E { a : Int }": 19, "effect E { a : Int -> Int -> Int }": 26, "effect E { a : Int -> <> Int }": 22, "effect E { a : Int -> Int; }": 27, "effect E { once once a : Int -> Int }": 16, "effect E { a : Int Int -> Int }": 19, "effect E { once a : Int -> Int }": 32,
		"effect E { a : List Int Int -> a b }": 33, "effect E { a : -> Int }": 15, "effect E { a : 1 -> Int }": 15, "effect E { in : Int -> Int }": 11, "data A { } main 1 } ": 18,
	} {
		if p, at, e := syntax.Parse(text); !reflect.DeepEqual(p, api.Program{}) || at != want || e != api.ErrText {
			t.Errorf("%q: %v, %d, %d; want %d", text, p, at, e, want)
		}
	}
	for text, want := range map[string]api.Errno{
		"data A a a { } main 1": api.ErrTwice, "data A a b c d e { } main 1": api.ErrSize, "data A { X a a a a a } main 1": api.ErrSize, "data A { X (P a a a a a) } main 1": api.ErrArity, "main rec f f = 1 in 2": api.ErrTwice, strings.Repeat("def x = 1 ", 61) + "main 1": api.ErrSize,
		strings.Repeat("data A { } ", 13) + "main 1": api.ErrSize, strings.Repeat("effect A { } ", 13) + "main 1": api.ErrSize, "effect A { " + strings.Repeat("a : Int -> Int; ", 8) + "a : Int -> Int } main 1": api.ErrSize, "data A { " + strings.Repeat("A; ", 8) + "A } main 1": api.ErrSize, "def x = C[1, 1, 1, 1, 1] main handle E 1 { }": api.ErrArity,
		strings.Repeat("data A { } ", 12) + strings.Repeat("effect A { } ", 12) + strings.Repeat("def x = 1 ", 60) + "main 1": api.OK,
	} {
		if p, at, e := syntax.Parse(text); at != 0 || e != want || reflect.DeepEqual(p, api.Program{}) != (want != api.OK) {
			t.Errorf("%q: %d, %d; want %d", text, at, e, want)
		}
	}
}

// P2.3, R7: at most 2*MaxDepth rules expr, atom and type contain each other.
func TestParseNesting(t *testing.T) {
	again := strings.Repeat
	for _, c := range []struct {
		text string
		at   int
		e    api.Errno
	}{
		// 199 parentheses are 398 rules, and x two more.
		{again("(", 199) + "x" + again(")", 199), 0, api.OK}, {again("(", 200) + "x" + again(")", 200), 200, api.ErrText}, {again("(", 201) + "x" + again(")", 201), 200, api.ErrText}, {again("(", 200), 200, api.ErrText}, {again("(", 199), 199, api.ErrText},
		{again("(", 199) + "drop k" + again(")", 199), 0, api.OK}, {"fun x -> " + again("(", 199) + "drop k" + again(")", 199), 0, api.OK}, {"fun x -> " + again("(", 199) + "drop k x" + again(")", 199), 215, api.ErrText}, {"fun x -> " + again("(", 199) + "x" + again(")", 199), 208, api.ErrText},
		{"fun x -> " + again("(", 199) + "do op x" + again(")", 199), 214, api.ErrText}, {"fun x -> " + again("(", 199) + "h.op x" + again(")", 199), 213, api.ErrText}, {again("(", 199) + "h.op x" + again(")", 199), 0, api.OK}, {again("(", 199) + "(-1)" + again(")", 199), 0, api.OK}, {again("(", 199) + "()" + again(")", 199), 0, api.OK},
		{again("(", 199) + "1 + 1" + again(")", 199), 0, api.OK}, {"(" + again("(x) ", 100) + ")", 0, api.OK}, {"(" + again("(x) ", 400) + ")", 0, api.ErrSize}, {again("fun x -> ", 398) + "x", 0, api.ErrSize}, {again("fun x -> ", 399) + "x", 9 * 399, api.ErrText}, {again("fun x -> ", 399) + "drop k", 0, api.ErrSize},
		{again("fun x -> ", 400) + "x", 9 * 400, api.ErrText}, {again("C[", 199) + "x" + again("]", 199), 0, api.OK}, {again("C[", 200) + "x" + again("]", 200), 400, api.ErrText}, {again("1 + ", 500) + "x", 0, api.ErrSize}, {again("match ", 199) + "x" + again(" { }", 199), 0, api.OK}, {again("match ", 200) + "x" + again(" { }", 200), 1200, api.ErrText},
		{again("match x { C -> ", 199) + "x" + again(" }", 199), 0, api.OK}, {again("match x { C -> ", 200) + "x" + again(" }", 200), 15*199 + 6, api.ErrText}, {again("do op (", 199) + "x" + again(")", 199), 0, api.OK}, {again("do op (", 200) + "x" + again(")", 200), 1400, api.ErrText},
	} {
		if _, at, e := syntax.ParseExpr(c.text); at != c.at || e != c.e {
			t.Errorf("%.20q, %d bytes: %d, %d; want %d, %d", c.text, len(c.text), at, e, c.at, c.e)
		}
		if _, at, e := syntax.Parse("main " + c.text); at != c.at+5 && c.at > 0 || e != c.e {
			t.Errorf("main %.20q, %d bytes: %d, %d; want %d, %d", c.text, len(c.text), at, e, c.at+5, c.e)
		}
	}
	for _, c := range []struct {
		text string
		at   int
		e    api.Errno
	}{
		{again("(", 399) + "Int" + again(")", 399), 0, api.OK}, {again("(", 400) + "Int" + again(")", 400), 400, api.ErrText}, {again("(", 401), 400, api.ErrText}, {again("(", 400), 400, api.ErrText}, {again("(", 399), 399, api.ErrText}, {again("Int -> ", 199) + "Int", 0, api.OK},
		{again("Int -> ", 399) + "Int", 0, api.ErrSize}, {again("Int -> ", 400) + "Int", 2800, api.ErrText}, {again("L (", 199) + "L" + again(")", 199), 0, api.OK}, {again("L (", 399) + "L" + again(")", 399), 0, api.ErrSize}, {again("L (", 400) + "L" + again(")", 400), 1200, api.ErrText}, {"L (Int) (Int) ((Int))", 0, api.OK},
	} {
		if _, at, e := syntax.ParseType(c.text); at != c.at || e != c.e {
			t.Errorf("%.20q, %d bytes: %d, %d; want %d, %d", c.text, len(c.text), at, e, c.at, c.e)
		}
	}
	for n, want := range map[int]api.Errno{399: api.OK, 400: api.OK, 401: api.ErrText} {
		text := "effect E { a : " + again("(", n) + "Int" + again(")", n) + " -> Int } main 1"
		if _, at, e := syntax.Parse(text); e != want || e != api.OK && at != 15+n {
			t.Errorf("%d parentheses in an operation: %d, %d", n, at, e)
		}
	}
	// Rules that have ended do not count.
	text := "data A { X" + again(" (((((Int)))))", 4) + again("; X (((((((((((Int)))))))))))", 7) + " } main 1"
	for _, name := range []string{"A", "B", "C", "D", "E", "F", "G"} {
		text = strings.Replace(text, "X", "X"+name, 1)
	}
	if _, at, e := syntax.Parse(again(strings.TrimSuffix(text, "main 1"), 12) + "main 1"); e != api.OK {
		t.Errorf("parentheses side by side: %d, %d", at, e)
	}
}

// P2.4: expressions of each form, as deep as they may be, are printed and parsed.
func TestDeepest(t *testing.T) {
	leaves := exprs(v("x"), num(-1), drop("k"), unit(), con("C"), match(v("x")), do("op", v("x")), app(v("f"), v("x")), prim("<", v("a"), v("b")), handle(0, "E", v("x"), ret(v("x"))))
	for _, leaf := range leaves {
		for form := range 24 {
			e := leaf
			for range 200 - syntax.Depth(leaf) {
				e = wrapped(form, e)
			}
			if syntax.Depth(e) != 200 {
				t.Fatalf("form %d: depth %d", form, syntax.Depth(e))
			}
			s, err := syntax.Show(e)
			if err != api.OK {
				t.Fatalf("form %d: Show: %d", form, err)
			}
			wantExpr(t, s, e)
			if got, at, err := syntax.Parse("main " + s); !syntax.Same(got.Main, e) || at != 0 || err != api.OK {
				t.Fatalf("form %d: Parse: %d, %d", form, at, err)
			}
		}
	}
	x := typeChain(200)
	y, z := tint, tint
	for range 199 {
		y, z = pure(y, tvar(1)), pure(tvar(1), z)
	}
	for _, x := range []api.Type{x, y, z} {
		s, e := syntax.ShowType(x)
		if got, at, e2 := syntax.ParseType(s); e != api.OK || !syntax.SameType(got, x) || at != 0 || e2 != api.OK {
			t.Errorf("types: %d, %d, %d", e, at, e2)
		}
	}
}

// wrapped returns a node that has an expression in one of the places that parts have.
func wrapped(form int, e api.Expr) api.Expr {
	x := v("x")
	return []func() api.Expr{
		func() api.Expr { return fun("x", e) }, func() api.Expr { return app(e, x) }, func() api.Expr { return app(x, e) }, func() api.Expr { return let("x", e, x) }, func() api.Expr { return let("x", x, e) },
		func() api.Expr { return rec("f", "x", e, x) }, func() api.Expr { return rec("f", "x", x, e) }, func() api.Expr { return cond(e, x, x) }, func() api.Expr { return cond(x, e, x) }, func() api.Expr { return cond(x, x, e) },
		func() api.Expr { return prim("<", e, x) }, func() api.Expr { return prim("==", x, e) }, func() api.Expr { return prim("+", e, x) }, func() api.Expr { return prim("-", x, e) }, func() api.Expr { return prim("*", e, x) }, func() api.Expr { return prim("*", x, e) },
		func() api.Expr { return con("C", x, e) }, func() api.Expr { return match(e, arm("C", x)) }, func() api.Expr { return match(x, arm("C", e, "x")) }, func() api.Expr { return mask("E", e) }, func() api.Expr { return at("h", "op", e) },
		func() api.Expr { return handle(1, "E", e, ret(x)) }, func() api.Expr { return named("h", "E", x, ret(x), arm("op", e, "x", "k")) }, func() api.Expr { return using(names("x", "E"), x, x, e) },
	}[form]()
}

// P2.3: a text has as many tokens as it has; the offset behind them is the end of the text.
func TestParseEnd(t *testing.T) {
	for _, end := range []string{"", " ", "\n", "# a", " # a\n", "\t#"} {
		text := "let x =" + end
		if len(end) > 0 && end[0] == '#' {
			text = "let x = " + end
		}
		wantError(t, text, len(text), api.ErrText)
		if _, at, e := syntax.ParseType("Int ->" + end); at != len("Int ->"+end) || e != api.ErrText {
			t.Errorf("%q: %d, %d", end, at, e)
		}
		if _, at, e := syntax.Parse("def x = 1" + end); at != len("def x = 1"+end) || e != api.ErrText {
			t.Errorf("%q: %d, %d", end, at, e)
		}
	}
	if l, _, _ := lexer.Lex(strings.Repeat("(", 30000)); len(l) != 30000 {
		t.Fatal("tokens")
	}
	wantError(t, strings.Repeat("(", 30000), 200, api.ErrText)
	wantError(t, strings.Repeat("x ", 15000), 0, api.ErrSize)
	wantError(t, "x"+strings.Repeat("+x", 14999), 0, api.ErrSize)
}
