package infer_test

import (
	"testing"

	"reprise/api"
	"reprise/infer"
	"reprise/syntax"
)

// none stands for ErrType in tables.
const none = "none"

// checkExprs compares the types of expressions with the texts of their rows and types, and with the model.
func checkExprs(t *testing.T, p api.Program, l [][2]string) {
	t.Helper()
	for _, c := range l {
		x := expr(t, c[0])
		got, e := infer.Expr(p, x)
		want, s := api.Type{}, api.ErrType
		if c[1] != none {
			want, s = typ(t, "Unit -> "+c[1]), api.OK
		}
		model, f := modelExpr(p, x)
		if e != s || !same(got, want) || f != e || !same(model, got) {
			t.Errorf("%s: %s, %d, by the model %s, %d; want %s", c[0], shownType(got), e, shownType(model), f, c[1])
		}
	}
}

// P6.2: the chapter's examples.
func TestExamples(t *testing.T) {
	checkExprs(t, declared, [][2]string{
		{"fun x -> x", "<| r0> t0 -> <| r1> t0"}, {"do get ()", "<State | r0> Int"}, {"let f = fun x -> x in if f true then f 1 else 2", "<| r0> Int"}, {"fun f -> f f", none}, {"mask State (do get ())", "<State, State | r0> Int"},
		{"handle State do get () { return x -> true; get u k -> k 1; put v k -> k () }", "<| r0> Bool"}, {"named h Ask h.ask 1 { return x -> x; ask a k -> k a }", "<| r0> Int"}, {"named h Ask fun x -> h.ask x { return x -> x; ask a k -> fun y -> y }", none},
		{"fun x -> do put x", "<| r0> Int -> <State | r1> Unit"},
	})
}

// P6.2: the rules of the kinds that need no effects, each kept and broken in each of its parts.
func TestPlainRules(t *testing.T) {
	checkExprs(t, declared, [][2]string{
		{"(-5)", "<| r0> Int"}, {"false", "<| r0> Bool"}, {"()", "<| r0> Unit"}, {"fun x -> fun y -> x", "<| r0> t0 -> <| r1> t1 -> <| r2> t0"}, {"fun x -> fun x -> x", "<| r0> t0 -> <| r1> t1 -> <| r2> t1"},
		{"(fun x -> x + 1) 2", "<| r0> Int"}, {"(fun x -> x + 1) true", none}, {"1 2", none}, {"fun f -> f 1", "<| r0> (Int -> <| r1> t0) -> <| r1> t0"}, {"fun f -> fun x -> f (f x)", "<| r0> (t0 -> <| r1> t0) -> <| r2> t0 -> <| r1> t0"},
		{"fun f -> fun g -> fun x -> f (g x)", "<| r0> (t0 -> <| r1> t1) -> <| r2> (t2 -> <| r1> t0) -> <| r3> t2 -> <| r1> t1"},
		{"if true then 1 else 2", "<| r0> Int"}, {"if () then 1 else 2", none}, {"if true then 1 else ()", none}, {"fun x -> if x then x else x", "<| r0> Bool -> <| r1> Bool"}, {"fun x -> fun y -> if true then x else y", "<| r0> t0 -> <| r1> t0 -> <| r2> t0"},
		{"1 + 2", "<| r0> Int"}, {"1 - 2", "<| r0> Int"}, {"1 * 2", "<| r0> Int"}, {"1 < 2", "<| r0> Bool"}, {"1 == 2", "<| r0> Bool"}, {"fun x -> fun y -> x == y", "<| r0> Int -> <| r1> Int -> <| r2> Bool"}, {"true == true", none}, {"1 < ()", none}, {"() - 1", none}, {"1 * true", none},
		{"Nil", "<| r0> List t0"}, {"Cons[1, Nil]", "<| r0> List Int"}, {"Cons[1, 2]", none}, {"Cons[(), Cons[1, Nil]]", none}, {"Pair[1, true]", "<| r0> Pair Int Bool"}, {"Pair[Nil, Nil]", "<| r0> Pair (List t0) (List t1)"}, {"fun x -> Pair[x, x]", "<| r0> t0 -> <| r1> Pair t0 t0"},
		{"More[1, More[Pair[2, 3], End]]", "<| r0> Nest Int"}, {"More[1, More[2, End]]", none}, {"Fn[fun x -> do get ()]", "<| r0> Fn"}, {"Fn[fun x -> x]", "<| r0> Fn"}, {"Fn[fun x -> do ask x]", none}, {"Fn[fun x -> true]", none},
		{"match Nil { Nil -> 1; Cons x l -> x }", "<| r0> Int"}, {"match Nil { Nil -> (); Cons x l -> x }", "<| r0> Unit"}, {"match Cons[true, Nil] { Nil -> 1; Cons x l -> x }", none}, {"match None { Nil -> 1; Cons x l -> 2 }", none}, {"match Nil { Nil -> 1; Cons x l -> l }", none},
		{"match Pair[1, true] { Pair x y -> Pair[y, x] }", "<| r0> Pair Bool Int"}, {"fun x -> match x { Pair a b -> a }", "<| r0> Pair t0 t1 -> <| r1> t0"}, {"fun x -> match x { None -> x; Some y -> Some[y] }", "<| r0> Opt t0 -> <| r1> Opt t0"}, {"fun x -> match x { None -> x; Some y -> y }", none},
		{"fun x -> match x { Fn f -> f 1 }", "<| r0> Fn -> <State> Int"}, {"fun x -> match x { Fn f -> f }", "<| r0> Fn -> <| r1> Int -> <State> Int"}, {"match Nil { Nil -> fun x -> x; Cons x l -> fun y -> x }", "<| r0> t0 -> <| r1> t0"},
		{"rec f x = if x == 0 then 1 else x * f (x - 1) in f 5", "<| r0> Int"}, {"rec f x = f x in f", "<| r0> t0 -> <| r1> t1"}, {"rec f x = x in Pair[f 1, f true]", "<| r0> Pair Int Bool"}, {"rec f x = f in f", none}, {"rec f x = f 1 in f true", none}, {"rec f x = do ask f x in f", none},
		{"rec f x = do put x in f", "<| r0> Int -> <State | r1> Unit"}, {"rec f x = (if x == 0 then 0 else f (do ask x)) in f 1", "<Ask | r0> Int"}, {"rec f x = (if true then x else f (f x)) in f", "<| r0> t0 -> <| r1> t0"},
	})
}

// P6.2: values are generalized, and nothing else is; what is free in the environment stays as it is.
func TestGeneralization(t *testing.T) {
	checkExprs(t, declared, [][2]string{
		{"let f = fun x -> x in Pair[f 1, f true]", "<| r0> Pair Int Bool"}, {"let f = (fun x -> x) (fun x -> x) in Pair[f 1, f true]", none}, {"let f = (fun x -> x) (fun x -> x) in Pair[f 1, f 2]", "<| r0> Pair Int Int"}, {"let f = (fun x -> x) (fun x -> x) in f", "<| r0> t0 -> <| r1> t0"},
		{"let n = Nil in Pair[Cons[1, n], Cons[true, n]]", "<| r0> Pair (List Int) (List Bool)"}, {"let n = Cons[fun x -> x, Nil] in match n { Nil -> 1; Cons f l -> f 1 }", "<| r0> Int"}, {"let n = Some[fun x -> x] in Pair[match n { None -> 1; Some f -> f 1 }, match n { None -> (); Some f -> f () }]", "<| r0> Pair Int Unit"},
		{"let n = Some[(fun x -> x) (fun x -> x)] in Pair[match n { None -> 1; Some f -> f 1 }, match n { None -> (); Some f -> f () }]", none}, {"let n = Some[Some[(fun x -> x) Nil]] in Pair[match n { None -> Nil; Some f -> Some[1] }, 1]", none},
		{"let f = fun x -> x in let g = f in Pair[g 1, g true]", "<| r0> Pair Int Bool"}, {"let f = if true then fun x -> x else fun x -> x in Pair[f 1, f true]", none}, {"let f = let g = fun x -> x in g in Pair[f 1, f true]", none}, {"let n = match Nil { Nil -> Nil; Cons x l -> l } in Pair[Cons[1, n], Cons[true, n]]", none},
		{"fun x -> let y = x in Pair[y, y]", "<| r0> t0 -> <| r1> Pair t0 t0"}, {"fun x -> let y = x in Pair[y + 1, y]", "<| r0> Int -> <| r1> Pair Int Int"}, {"fun x -> let y = x in if y then y + 1 else 2", none}, {"fun x -> let f = fun y -> Pair[x, y] in Pair[f 1, f true]", "<| r0> t0 -> <| r1> Pair (Pair t0 Int) (Pair t0 Bool)"},
		{"fun x -> let f = fun y -> x y in Pair[f 1, f true]", none}, {"fun x -> let f = fun y -> x y in f", "<| r0> (t0 -> <| r1> t1) -> <| r2> t0 -> <| r1> t1"}, {"fun g -> let f = fun y -> g () in let u = f 1 in f true", "<| r0> (Unit -> <| r1> t0) -> <| r1> t0"}, {"fun g -> let f = fun y -> g () in f", "<| r0> (Unit -> <| r1> t0) -> <| r2> t1 -> <| r1> t0"},
		{"fun g -> rec f y = g () in Pair[f 1, f true]", "<| r0> (Unit -> <| r1> t0) -> <| r1> Pair t0 t0"}, {"fun z -> rec f y = Pair[z, y] in Pair[f 1, f true]", "<| r0> t0 -> <| r1> Pair (Pair t0 Int) (Pair t0 Bool)"}, {"fun z -> rec f y = (if true then z else y) in Pair[f 1, f true]", none},
		{"let f = fun x -> x in let g = fun h -> h (f 1) in Pair[g (fun n -> do ask n), g (fun n -> do put n)]", "<Ask, State | r0> Pair Int Unit"}, {"(fun g -> Pair[g (fun n -> do ask n), g (fun n -> do put n)]) (fun h -> h 1)", none},
		{"let a = fun f -> f () in let u = a (fun x -> do get x) in a (fun x -> do tick x)", "<State, Tick | r0> Int"}, {"fun x -> let f = fun u -> x in match x { Nil -> f; Cons y l -> f }", "<| r0> List t0 -> <| r1> t1 -> <| r2> List t0"},
		// The equation of a node comes behind those of its parts.
		{"fun x -> match x { None -> let f = fun y -> x in f; Some z -> let f = fun y -> x in f }", "<| r0> Opt t0 -> <| r1> t1 -> <| r2> Opt t0"}, {"fun f -> fun x -> f (let y = x in Pair[y, y])", "<| r0> (Pair t0 t0 -> <| r1> t1) -> <| r2> t0 -> <| r1> t1"},
		{"(fun x -> let y = x in Pair[y, y]) 1", "<| r0> Pair Int Int"}, {"handle Call do call (fun x -> x) { return x -> 1; call f k -> let g = f in k (handle Ask g 1 { return x -> x; ask n k -> n }) }", "<> Int"},
		{"handle Ask do ask 1 { return x -> Nil; ask n k -> let j = k in j 1 }", "<| r0> List t0"}, {"handle Ask do ask 1 { return x -> x; ask n k -> let j = fun u -> k u in j 1 + j 2 }", "<| r0> Int"},
	})
}

// P6.2: the rules of operations, handlers and masks.
func TestHandlerRules(t *testing.T) {
	checkExprs(t, declared, [][2]string{
		{"do put 1", "<State | r0> Unit"}, {"do put ()", none}, {"do halt 1", "<Tick | r0> Void"}, {"do print 1", "<IO | r0> Unit"}, {"do print true", none}, {"do read ()", "<IO | r0> Int"}, {"do read 1", none}, {"do ask (do get ())", "<Ask, State | r0> Int"}, {"do ask (do ask 1)", "<Ask | r0> Int"},
		{"do call (fun x -> x)", "<Call | r0> Int"}, {"do call (fun x -> do ask x)", "<Call | r0> Int"}, {"do call (fun x -> do get ())", none}, {"fun f -> do call f", "<| r0> (Int -> <Ask> Int) -> <Call | r1> Int"},
		{"handle Nop 1 { return x -> true }", "<| r0> Bool"}, {"handle Nop 1 { return x -> x }", "<| r0> Int"}, {"handle Nop do ask 1 { return x -> x }", "<Ask | r0> Int"}, {"handle Ask do ask 1 { return x -> x; ask n k -> do ask n }", "<Ask | r0> Int"}, {"handle Ask do ask 1 { return x -> do ask x; ask n k -> 1 }", "<Ask | r0> Int"},
		{"handle Ask do ask 1 { return x -> (); ask n k -> k n }", "<| r0> Unit"}, {"handle Ask do ask 1 { return x -> (); ask n k -> n }", none}, {"handle Ask do ask 1 { return x -> x; ask n k -> k true }", none}, {"handle Ask do ask 1 { return x -> x; ask n k -> if n then 1 else 2 }", none}, {"handle Ask do ask 1 { return x -> if x then 1 else 2; ask n k -> 1 }", none},
		{"handle Ask do ask 1 { return x -> x; ask n k -> k }", none}, {"handle Ask do ask 1 { return x -> fun y -> x; ask n k -> k }", none}, {"handle Ask do ask 1 { return x -> fun y -> x + y; ask n k -> fun y -> k y y }", "<| r0> Int -> <| r0> Int"}, {"handle Ask do ask 1 { return x -> Some[x]; ask n k -> None }", "<| r0> Opt Int"},
		{"handle Ask fun x -> do ask x { return f -> f; ask n k -> fun y -> y }", "<| r0> Int -> <Ask | r1> Int"}, {"handle Ask fun x -> do ask x { return f -> f 1; ask n k -> n }", "<Ask | r0> Int"}, {"handle Ask handle Ask do ask 1 { return x -> x; ask n k -> n } { return x -> x; ask n k -> n }", "<| r0> Int"},
		{"handle State do put (do get ()) { return x -> fun s -> s; get u k -> fun s -> k s s; put n k -> fun s -> k () n }", "<| r0> Int -> <| r0> Int"}, {"handle IO do print (do read ()) { return x -> x; print n k -> resume k (); read u k -> resume k 1 }", "<| r0> Unit"}, {"handle Amb if do flip () then 1 else 2 { return x -> x; flip u k -> k true + k false }", "<| r0> Int"},
		{"handle Tick do tick () { return x -> x; tick u k -> 1; halt n k -> n }", "<| r0> Int"}, {"handle Tick do tick () { return x -> x; tick u k -> resume k 1; halt n k -> n }", "<| r0> Int"}, {"handle Tick do tick () { return x -> x; tick u k -> resume k true; halt n k -> n }", none}, {"handle Tick do tick () { return x -> true; tick u k -> resume k 1; halt n k -> n < 1 }", "<| r0> Bool"},
		{"handle Tick do tick () { return x -> x; tick u k -> k 1; halt n k -> n }", none}, {"handle Tick do tick () { return x -> x; tick u k -> let j = k in 1; halt n k -> n }", none}, {"handle Tick do tick () { return x -> x; tick u k -> u; halt n k -> n }", none}, {"handle Tick do tick () { return x -> x; tick u k -> resume u (); halt n k -> n }", none}, {"handle Tick do tick () { return x -> x; tick u k -> let z = drop u in 1; halt n k -> n }", none},
		{"handle Tick do tick () { return x -> x; tick u k -> let z = drop k in 1; halt n k -> let z = drop k in n }", "<IO | r0> Int"}, {"handle Tick do tick () { return x -> x; tick u k -> let f = fun y -> drop k in 1; halt n k -> n }", "<| r0> Int"}, {"handle Tick do tick () { return x -> (); tick u k -> drop k; halt n k -> drop k }", "<IO | r0> Unit"}, {"handle Tick do tick () { return x -> 1; tick u k -> drop k; halt n k -> n }", none},
		{"handle Tick do tick () { return x -> x; tick u k -> let k = 1 in k; halt n k -> n }", "<| r0> Int"}, {"handle Tick do tick () { return x -> x; tick u k -> let k = 1 in resume k 1; halt n k -> n }", none}, {"handle Ask do ask 1 { return x -> x; ask n k -> resume k 1 }", none}, {"handle Ask do ask 1 { return x -> (); ask n k -> drop k }", none}, {"fun k -> resume k 1", none}, {"fun k -> drop k", none},
		{"handle Tick do tick () { return x -> fun y -> x; tick u k -> fun y -> resume k y y; halt n k -> fun y -> y }", "<| r0> Int -> <| r0> Int"}, {"handle Tick do tick () { return x -> fun y -> x; tick u k -> (let f = resume k 1 in fun y -> f y); halt n k -> fun y -> y }", "<| r0> Int -> <| r1> Int"},
		{"shallow Ask do ask 1 { return x -> x; ask n k -> 1 }", "<| r0> Int"}, {"shallow Ask do ask 1 { return x -> x; ask n k -> k n }", none}, {"shallow Ask do ask 1 { return x -> x; ask n k -> handle Ask k n { return x -> x; ask n k -> n } }", "<| r0> Int"}, {"shallow Ask do ask 1 { return x -> x < 1; ask n k -> handle Ask k n { return x -> x; ask n k -> n } < 2 }", "<| r0> Bool"},
		{"shallow Ask do ask 1 { return x -> fun y -> x; ask n k -> k }", "<| r0> Int -> <Ask | r0> Int"}, {"shallow Tick do tick () { return x -> x; tick u k -> resume k 1; halt n k -> n }", none}, {"shallow Tick do tick () { return x -> x; tick u k -> handle Tick resume k 1 { return x -> x; tick u k -> 1; halt n k -> n }; halt n k -> n }", "<| r0> Int"},
		{"shallow Tick do tick () { return x -> Some[x]; tick u k -> handle Tick resume k 1 { return x -> None; tick u k -> None; halt n k -> None }; halt n k -> None }", "<| r0> Opt Int"},
		{"mask Ask 1", "<Ask | r0> Int"}, {"mask Ask (do get ())", "<Ask, State | r0> Int"}, {"mask Ask (mask Ask (do ask 1))", "<Ask, Ask, Ask | r0> Int"}, {"handle Ask mask Ask (do ask 1) { return x -> x; ask n k -> n }", "<Ask | r0> Int"}, {"fun f -> mask Ask (f 1)", "<| r0> (Int -> <| r1> t0) -> <Ask | r1> t0"}, {"mask IO (do print 1)", "<IO, IO | r0> Unit"},
	})
}

// P6.2: the rules of named handlers, and of their scopes.
func TestNamedRules(t *testing.T) {
	const ask, state = "{ return x -> x; ask n k -> k n }", "{ return x -> x; get u k -> k 1; put n k -> k () }"
	checkExprs(t, declared, [][2]string{
		{"named h Ask h.ask 1 " + ask, "<| r0> Int"}, {"named h Ask do ask 1 " + ask, "<Ask | r0> Int"}, {"named h Ask h.ask () " + ask, none}, {"named h Ask h.get () " + ask, none}, {"named h Ask named g State h.ask (g.get ()) " + state + " " + ask, "<| r0> Int"}, {"named h Ask named g State g.ask (h.get ()) " + state + " " + ask, none},
		{"named h Ask named g Ask h.ask (g.ask 1) " + ask + " " + ask, "<| r0> Int"}, {"named h Ask named h State h.get () " + state + " " + ask, "<| r0> Int"}, {"named h Ask named h State h.ask 1 " + state + " " + ask, none}, {"fun h -> named h Ask h.ask 1 " + ask, "<| r0> t0 -> <| r1> Int"}, {"named h Ask fun h -> h + 1 " + ask, "<| r0> Int -> <| r1> Int"},
		{"named h Ask 1 { return h -> h; ask n k -> k n }", "<| r0> Int"}, {"named h Tick h.tick () { return x -> x; tick u k -> resume k 1; halt n k -> n }", "<| r0> Int"}, {"named h Tick h.tick () { return x -> x; tick u k -> k 1; halt n k -> n }", none}, {"named h IO h.print (h.read ()) { return x -> 1; print n k -> resume k (); read u k -> resume k 1 }", "<| r0> Int"},
		// The clauses' result, the body's type, and the row must not mention the scope; what the body's parts have may.
		{"named h Ask fun x -> h.ask x { return f -> 1; ask n k -> n }", none}, {"named h Ask Some[fun x -> h.ask x] { return f -> None; ask n k -> None }", none}, {"named h Ask Some[fun x -> h.ask x] { return f -> f; ask n k -> None }", none}, {"named h Ask (let f = fun x -> h.ask x in f (f 1)) " + ask, "<| r0> Int"}, {"named h Ask (let f = fun x -> h.ask x in f) { return x -> 1; ask n k -> k n }", none},
		{"named h Ask (fun f -> f (f 1)) (fun x -> h.ask x) " + ask, "<| r0> Int"}, {"named h Ask named g Ask (fun f -> f 1) (fun x -> h.ask (g.ask x)) " + ask + " " + ask, "<| r0> Int"}, {"named h Ask named g Ask (fun x -> h.ask x) { return f -> f 1; ask n k -> n } " + ask, "<| r0> Int"}, {"named h Ask named g Ask (fun x -> g.ask x) { return f -> 1; ask n k -> n } " + ask, none},
		{"named h Ask mask Ask (h.ask 1) " + ask, "<Ask | r0> Int"}, {"handle Ask named h Ask h.ask (do ask 1) " + ask + " " + ask, "<| r0> Int"}, {"named h Call h.call (fun x -> x) { return x -> x; call f k -> k 1 }", "<| r0> Int"}, {"named h Call named g Ask h.call (fun x -> g.ask x) " + ask + " { return x -> x; call f k -> k 1 }", none},
		{"fun f -> named h Ask f (fun x -> h.ask x) " + ask, none}, {"fun f -> named h Ask f (fun x -> x) " + ask, none}, {"let f = fun g -> g 1 in named h Ask f (fun x -> h.ask x) " + ask, "<| r0> Int"},
		{"fun f -> named h Ask (let y = f () in 1) " + ask, none}, {"fun f -> named h Ask (let y = mask Ask (f ()) in 1) " + ask, none}, {"fun x -> named h Ask (let y = (if true then x else fun z -> h.ask z) in 1) " + ask, none},
		{"named h Nop 1 { return x -> x }", "<| r0> Int"}, {"named h Nop fun x -> x { return x -> x }", "<| r0> t0 -> <| r1> t0"},
	})
}

// P6.2: the rules of resources.
func TestUsingRules(t *testing.T) {
	checkExprs(t, declared, [][2]string{
		{"using x [] = 1 close fun y -> () in x", "<IO> Int"}, {"using x [Tick, Amb] = 1 close fun y -> () in x + do tick ()", "<Amb, IO, Tick> Int"}, {"using x [] = 1 close fun y -> do print y in x", "<IO> Int"}, {"using x [] = 1 close fun y -> do tick () in x", none}, {"using x [Tick] = 1 close fun y -> let z = do tick () in () in x", none},
		{"using x [] = 1 close fun y -> y in x", none}, {"using x [] = 1 close fun y -> if y then () else () in x", none}, {"using x [] = true close fun y -> if y then () else () in 1", "<IO> Int"}, {"using x [] = 1 close () in x", none}, {"using x [] = 1 close fun y -> () in do tick ()", none}, {"using x [] = do tick () close fun y -> () in 1", none}, {"using x [Tick] = do tick () close fun y -> () in 1", "<IO, Tick> Int"},
		{"using x [] = 1 close (let u = do tick () in fun y -> ()) in 1", none}, {"using x [Tick] = 1 close (let u = do tick () in fun y -> ()) in 1", "<IO, Tick> Int"}, {"using x [] = fun y -> y close fun y -> () in Pair[x 1, x 2]", "<IO> Pair Int Int"}, {"using x [] = fun y -> y close fun y -> () in Pair[x 1, x true]", none}, {"fun y -> using x [] = y close fun z -> () in x", "<| r0> t0 -> <IO> t0"},
		{"using x [] = 1 close (using x [] = 1 close fun y -> () in fun y -> ()) in x", "<IO> Int"}, {"using x [] = 1 close fun y -> (using z [] = y close fun z -> () in ()) in x", "<IO> Int"}, {"using x [] = 1 close fun y -> (using z [Tick] = y close fun z -> () in ()) in x", none}, {"handle Tick using x [Tick] = 1 close fun y -> () in do tick () { return x -> x; tick u k -> 1; halt n k -> n }", "<IO> Int"},
		{"handle Tick using x [] = 1 close fun y -> () in x { return x -> x; tick u k -> 1; halt n k -> n }", none}, {"handle IO using x [] = 1 close fun y -> () in x { return x -> x; print u k -> 1; read n k -> 1 }", "<> Int"}, {"named h Tick using x [Tick] = 1 close fun y -> () in 1 { return x -> x; tick u k -> 1; halt n k -> n }", none}, {"do print (using x [] = 1 close fun y -> () in x)", "<IO> Unit"}, {"mask IO (using x [] = 1 close fun y -> () in x)", "<IO, IO> Int"},
	})
}

// P6.1: definitions see those before them, and hide them; the row of all is that of IO.
func TestPrograms(t *testing.T) {
	for _, c := range []struct {
		text, want string
		e          api.Errno
	}{
		{"main 1", "Int", api.OK}, {"main fun x -> x", "t0 -> <| r0> t0", api.OK}, {"main do print (do read ())", "Unit", api.OK}, {"main do get ()", "", api.ErrType}, {"main do print ()", "", api.ErrType}, {"main mask IO 1", "Int", api.OK}, {"main mask IO (do print 1)", "", api.ErrType}, {"main mask Ask 1", "", api.ErrType}, {"main using x [] = 1 close fun y -> do print y in x", "Int", api.OK}, {"main using x [Tick] = 1 close fun y -> () in x", "", api.ErrType},
		{"def id = fun x -> x def two = id 2 main id (two < 1)", "t0 -> <| r0> t0, Int, Bool", api.OK}, {"def x = 1 def x = true main x", "Int, Bool, Bool", api.OK}, {"def x = 1 def x = fun y -> x + y main x", "Int, Int -> <| r0> Int, Int -> <| r0> Int", api.OK}, {"def f = fun x -> do get () main f", "t0 -> <State | r0> Int, t0 -> <State | r0> Int", api.OK}, {"def f = fun x -> do get () main f 1", "", api.ErrType},
		{"def f = fun x -> x main Pair[f 1, f true]", "t0 -> <| r0> t0, Pair Int Bool", api.OK}, {"def f = (fun x -> x) (fun x -> x) main f 1", "Int -> <IO> Int, Int", api.OK}, {"def f = (fun x -> x) (fun x -> x) main Pair[f 1, f true]", "", api.ErrType}, {"def f = (fun x -> x) (fun x -> x) main 1", "t0 -> <| r0> t0, Int", api.OK}, {"def f = (fun x -> x) (fun x -> x) def g = f main g true", "Bool -> <IO> Bool, Bool -> <IO> Bool, Bool", api.OK},
		{"def n = Nil main Pair[Cons[1, n], Cons[true, n]]", "List t0, Pair (List Int) (List Bool)", api.OK}, {"def x = do read () main x + 1", "Int, Int", api.OK}, {"def x = do ask 1 main 1", "", api.ErrType}, {"def x = 1 + true main 1", "", api.ErrType}, {"def x = named h Ask (fun x -> h.ask x) { return x -> x; ask n k -> fun y -> y } main 1", "", api.ErrType},
		{"def k = fun x -> fun y -> x main k", "t0 -> <| r0> t1 -> <| r1> t0, t0 -> <| r0> t1 -> <| r1> t0", api.OK}, {"def n = (fun x -> x) Nil def m = Cons[1, n] main n", "List Int, List Int, List Int", api.OK},
	} {
		p := parsed(t, c.text)
		defs, main, e := infer.Infer(p)
		got := shownTypes(append(defs, main)...)
		if e != api.OK {
			got = ""
		}
		if got != c.want || e != c.e || infer.Accepts(p) != (e == api.OK) || e != api.OK && !same(append(defs, main), []api.Type{{}}) {
			t.Errorf("%s: %q, %d; want %q, %d", c.text, got, e, c.want, c.e)
		}
		wantDefs, wantMain, f := modelInfer(p)
		if e != f || !same(defs, wantDefs) || !same(main, wantMain) {
			t.Errorf("%s: by the model %s, %s, %d", c.text, shownTypes(wantDefs...), shownType(wantMain), f)
		}
	}
}

// P6.1, P6.2, R1, R2: errors come in order, and with them there is nothing else.
func TestErrors(t *testing.T) {
	bad := []struct {
		p    api.Program
		x    api.Expr
		e, f api.Errno // of Infer with the Main, and of Expr
	}{
		{parsed(t, "main ()"), api.Expr{Kind: -1}, api.ErrArg, api.ErrArg}, {parsed(t, "main ()"), v("X"), api.ErrName, api.ErrName}, {parsed(t, "main ()"), api.Expr{Kind: api.App}, api.ErrArity, api.ErrArity}, {parsed(t, "main ()"), within(api.MaxDepth, num(1)), api.ErrSize, api.ErrSize}, {parsed(t, "main ()"), endless(), api.ErrSize, api.ErrSize},
		{parsed(t, "main ()"), expr(t, "do zap x"), api.ErrNone, api.ErrNone}, {parsed(t, "main ()"), expr(t, "Cons[x]"), api.ErrArity, api.ErrArity}, {parsed(t, "main ()"), expr(t, "match x { Nil -> 1 }"), api.ErrCases, api.ErrCases}, {parsed(t, "main ()"), expr(t, "using x [IO] = 1 close y in 1"), api.ErrTwice, api.ErrTwice}, {parsed(t, "main ()"), expr(t, "mask Zap x"), api.ErrNone, api.ErrNone},
		{parsed(t, "main ()"), expr(t, "x + true"), api.ErrNone, api.ErrNone}, {parsed(t, "main ()"), expr(t, "h.ask true"), api.ErrNone, api.ErrNone}, {parsed(t, "main ()"), expr(t, "resume k 1"), api.ErrNone, api.ErrNone}, {parsed(t, "main ()"), expr(t, "drop k"), api.ErrNone, api.ErrNone}, {parsed(t, "main ()"), expr(t, "let x = x in 1"), api.ErrNone, api.ErrNone}, {parsed(t, "main ()"), expr(t, "named h Ask 1 { return x -> h.ask x; ask n k -> 1 }"), api.ErrNone, api.ErrNone},
		{parsed(t, "main ()"), expr(t, "1 + true"), api.ErrType, api.ErrType}, {read(t, syntax.Parse, "data A { A } data A { } main ()"), expr(t, "1 + true"), api.ErrTwice, api.ErrTwice}, {read(t, syntax.Parse, "effect E { op : F -> Int } main ()"), expr(t, "x"), api.ErrNone, api.ErrNone}, {api.Program{Data: []api.Data{{Name: "a"}}}, api.Expr{Kind: -1}, api.ErrName, api.ErrName}, {api.Program{Defs: make([]api.Def, api.MaxDefs+1)}, expr(t, "x"), api.ErrSize, api.ErrNone},
		// For Expr, definitions and Main do not count.
		{parsed(t, "def x = 1 main ()"), expr(t, "x"), api.OK, api.ErrNone}, {parsed(t, "def x = y main ()"), expr(t, "1"), api.ErrNone, api.OK}, {parsed(t, "def x = 1 + true main ()"), expr(t, "1"), api.ErrType, api.OK}, {parsed(t, "def x = do zap 1 main ()"), expr(t, "1"), api.ErrNone, api.OK}, {api.Program{Defs: []api.Def{{Name: "X", Body: num(1)}}}, expr(t, "1"), api.ErrName, api.OK},
		{parsed(t, "def x = x main ()"), expr(t, "1"), api.ErrNone, api.OK}, {parsed(t, "def x = y def y = 1 main ()"), expr(t, "y"), api.ErrNone, api.ErrNone}, {parsed(t, "def x = 1 + true def y = do zap 1 main ()"), expr(t, "y"), api.ErrNone, api.ErrNone}, {parsed(t, "def x = 1 + true main ()"), expr(t, "y"), api.ErrNone, api.ErrNone},
	}
	for i, c := range bad {
		c.p.Main = c.x
		defs, main, e := infer.Infer(c.p)
		if e != c.e || infer.Accepts(c.p) != (e == api.OK) || e != api.OK && (len(defs) > 0 || !same(main, api.Type{})) {
			t.Errorf("%d: Infer: %v, %v, %d; want %d", i, defs, main, e, c.e)
		}
		c.p.Main = api.Expr{Kind: -1}
		x, f := infer.Expr(c.p, c.x)
		if f != c.f || f != api.OK && !same(x, api.Type{}) {
			t.Errorf("%d: Expr: %v, %d; want %d", i, x, f, c.f)
		}
		// Has asks about the type behind all errors of the expression but ErrType.
		wrong := api.ErrArity
		if c.f != api.OK && c.f != api.ErrType {
			wrong = c.f
		}
		if is, g := infer.Has(c.p, c.x, api.Type{Kind: api.TFun}); is || g != wrong {
			t.Errorf("%d: Has: %t, %d; want %d", i, is, g, wrong)
		}
		want := c.f
		if c.f == api.ErrType {
			want = api.OK
		}
		if is, g := infer.Has(c.p, c.x, typ(t, "Unit -> Int")); is != (c.f == api.OK) || g != want {
			t.Errorf("%d: Has: %t, %d; want %d", i, is, g, want)
		}
	}
}

// endless returns an expression that contains itself.
func endless() api.Expr {
	x := app(v("x"), v("x"))
	x.L[1] = x
	return x
}

// P6.2: which types an expression has.
func TestHas(t *testing.T) {
	for _, c := range []struct {
		text, t string
		is      bool
	}{
		{"fun x -> x", "Unit -> Int -> Int", true}, {"fun x -> x", "Unit -> <IO> Int -> <State> Int", true}, {"fun x -> x", "Unit -> Int -> Bool", false}, {"fun x -> x", "Unit -> <| r0> t0 -> <| r1> t0", true}, {"fun x -> x", "Unit -> <| r5> t7 -> <| r5> t7", true}, {"fun x -> x", "t0", false}, {"fun x -> x", "Unit -> t0", false}, {"fun x -> x", "Unit -> Int -> t0", false}, {"fun x -> x", "Unit -> Zap a -> Zap a", true},
		{"do get ()", "Unit -> <State> Int", true}, {"do get ()", "Unit -> <IO, State> Int", true}, {"do get ()", "Unit -> <State, IO | r9> Int", true}, {"do get ()", "Unit -> Int", false}, {"do get ()", "Unit -> <IO | r0> Int", false}, {"do get ()", "Unit -> <State> Bool", false}, {"1 + true", "Unit -> Int", false}, {"using x [] = 1 close fun y -> () in x", "Unit -> <IO> Int", true}, {"using x [] = 1 close fun y -> () in x", "Unit -> <IO | r0> Int", false}, {"using x [] = 1 close fun y -> () in x", "Unit -> <Ask, IO> Int", false},
		{"mask Ask (mask State (do ask 1))", "Unit -> <Ask, State, Ask> Int", true}, {"mask Ask (mask State (do ask 1))", "Unit -> <Ask, State> Int", false},
	} {
		if is, e := infer.Has(declared, expr(t, c.text), typ(t, c.t)); is != c.is || e != api.OK {
			t.Errorf("%s : %s: %t, %d", c.text, c.t, is, e)
		}
	}
}

// P6.1: with other names of effects and types, and with IO, labels are in order, byte by byte.
func TestLabelOrder(t *testing.T) {
	p := read(t, syntax.Parse, "effect Z { z : Unit -> Int } effect Aa { aa : Unit -> Int } effect A9 { an : Unit -> Int } effect A_ { au : Unit -> Int } effect AB { ab : Unit -> Int } effect A { a : Unit -> Int } main ()")
	checkExprs(t, p, [][2]string{{"do z () + do aa () + do an () + do au () + do ab () + do a () + do read () + mask A (do a ())", "<A, A, A9, AB, A_, Aa, IO, Z | r0> Int"}})
}
