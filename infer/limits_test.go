package infer_test

import (
	"strings"
	"testing"

	"reprise/api"
	"reprise/infer"
	"reprise/syntax"
)

// checkLimit compares the error of typing an expression with one that is wanted, and all of Expr with the model.
func checkLimit(t *testing.T, what string, x api.Expr, want api.Errno) {
	t.Helper()
	if e := syntax.Check(x); e != api.OK {
		t.Fatalf("%s: not well formed: %d", what, e)
	}
	got, e := infer.Expr(declared, x)
	model, f := modelExpr(declared, x)
	if e != want || f != want || !same(got, model) {
		t.Errorf("%s: %d, by the model %d; want %d", what, e, f, want)
	}
}

// asks returns the sum of expressions that perform an operation so often, all together: each adds two equations and binds a row variable, but for one, and so does each sum add two.
func asks(n int, last api.Expr) api.Expr {
	var l []api.Expr
	for n > 0 {
		x := num(1)
		if len(l) == 0 {
			x = last
		}
		for range min(n, 140) {
			x = do("ask", x)
		}
		l = append(l, x)
		n -= 140
	}
	return sum(l...)
}

// P6.2, R7: there are at most MaxSize equations when they are solved, and this is asked before whether they have a solution.
func TestMostEquations(t *testing.T) {
	half := api.MaxSize/2 - 10 // asks in 11 parts, with 10 sums
	checkLimit(t, "most equations", asks(half, num(1)), api.OK)
	checkLimit(t, "one more", con("Some", asks(half, num(1))), api.ErrSize)
	checkLimit(t, "a clash", asks(half, api.Expr{Kind: api.Unit}), api.ErrType)
	checkLimit(t, "one more, and a clash", con("Some", asks(half, api.Expr{Kind: api.Unit})), api.ErrSize)
	// What is solved is replaced by what is bound: half a variable for each equation.
	rest := (api.MaxSize-half)/2 - 5
	solved := func(x api.Expr) api.Expr { return let("u", asks(half, num(1)), let("y", num(1), x)) }
	checkLimit(t, "solved in between", solved(asks(rest, num(1))), api.OK)
	checkLimit(t, "solved in between, and one more", solved(con("Some", asks(rest, num(1)))), api.ErrSize)
	checkLimit(t, "not solved in between", let("u", asks(half, num(1)), asks(rest, num(1))), api.ErrSize)
}

// choices returns a choice between n uses of a variable: all of their types are united.
func choices(n int, x api.Expr) api.Expr {
	if n == 1 {
		return x
	}
	return ifs(api.Expr{Kind: api.Bool}, choices(n/2, x), choices(n-n/2, x))
}

// P6.2, R7: what a solution binds counts as equations when they are solved once more.
func TestMostBindings(t *testing.T) {
	for _, c := range []struct {
		uses     int
		extra    bool
		in, once api.Errno
	}{{15, false, api.OK, api.OK}, {16, false, api.OK, api.OK}, {16, true, api.ErrSize, api.OK}, {17, false, api.ErrSize, api.OK}} {
		// Each use has 200 variables of its own, and so many are bound but for one use.
		u := choices(c.uses, v("f"))
		if c.extra {
			u = con("Some", u)
		}
		checkLimit(t, "solved twice", let("f", within(100, num(1)), let("u", u, let("y", num(1), num(1)))), c.in)
		checkLimit(t, "solved once", let("f", within(100, num(1)), let("u", u, num(1))), c.once)
	}
}

// padding returns an expression that adds n equations, at least one, and none that concern its row.
func padding(n int) api.Expr {
	pairs := n / 2
	parts := (pairs + 140) / 141
	x := num(1)
	if pairs > 0 {
		x = asks(pairs-parts+1, x)
	}
	if n%2 == 1 {
		x = con("Some", x)
	}
	return lam("z", x)
}

// P6.2, R7: so many variables are bound as the canonical solution binds, where row variables that are fresh are bound in turn.
func TestBoundVariables(t *testing.T) {
	t.Parallel()
	pieces := []string{"if true then f else g", "if true then f else h", "if true then g else h", "if true then h else f", "if true then i else j", "if true then f else i", "if true then i else f", "if true then j else h", "if true then i else fun u -> 1", "if true then fun u -> 1 else f", "let y = 1 in f", "let y = 1 in g"}
	uses := map[string]string{"f": "handle Ask f () { return x -> x; ask n k -> n }", "g": "handle State g () { return x -> x; get u k -> 1; put n k -> 1 }", "h": "handle Ask handle State h () { return x -> x; get u k -> 1; put n k -> 1 } { return x -> x; ask n k -> n }", "i": "handle Amb i () { return x -> x; flip u k -> 1 }", "j": "handle Nop j () { return x -> x }"}
	bound := map[int]bool{}
	for i := range 150 {
		m := newMaker(int64(i), 0)
		var l []api.Expr
		for _, name := range []string{"f", "g", "h", "i", "j"} {
			if m.Intn(4) > 0 {
				l = append(l, must("fun u -> "+uses[name]))
			}
		}
		for range 1 + m.Intn(6) {
			l = append(l, must(m.of(pieces...)))
		}
		m.Shuffle(len(l)*m.Intn(2), func(i, j int) { l[i], l[j] = l[j], l[i] })
		x := l[0]
		for _, y := range l[1:] {
			x = con("Pair", x, y)
		}
		for _, name := range []string{"f", "g", "h", "i", "j"} {
			x = lam(name, x)
		}
		if i%3 == 0 {
			x = m.typed(m.goal(2), 4, nil)
		}
		after := func(y api.Expr) api.Expr { return let("u", x, let("y", num(1), y)) }
		var model model
		model.p = declared
		if _, e := model.alone(after(num(1))); e != api.OK {
			continue
		}
		bound[model.last] = true
		checkLimit(t, shown(x), after(padding(api.MaxSize-model.last)), api.OK)
		checkLimit(t, shown(x), after(padding(api.MaxSize-model.last+1)), api.ErrSize)
	}
	if len(bound) < 20 {
		t.Error(bound)
	}
}

// sized returns an expression within definitions of q, so that the type of q has n nodes.
func sized(n int, x api.Expr) api.Expr {
	switch {
	case n == 1:
		return let("q", num(1), x)
	case n%2 == 0:
		return sized(n-1, let("q", con("Some", v("q")), x))
	}
	return sized(n/2, let("q", con("Pair", v("q"), v("q")), x))
}

// deepType returns a type within so many options.
func deepType(n int, x api.Type) api.Type {
	for range n {
		x = data("Opt", x)
	}
	return x
}

// nested returns an expression within so many options.
func nested(n int, x api.Expr) api.Expr {
	for range n {
		x = con("Some", x)
	}
	return x
}

// used returns an expression of the type of another one, which is in an equation.
func used(x api.Expr) api.Expr { return ifs(api.Expr{Kind: api.Bool}, x, x) }

// P6.2, R7: a type in an equation has at most MaxSize nodes; of how large the result is, nothing is asked.
func TestLargestTypes(t *testing.T) {
	const n = api.MaxSize
	q := v("q")
	checkLimit(t, "largest", sized(n, used(q)), api.OK)
	checkLimit(t, "too large", sized(n+1, used(q)), api.ErrSize)
	checkLimit(t, "too large, not in an equation", sized(n+1, q), api.OK)
	checkLimit(t, "largest argument", sized(n-2, app(lam("y", num(1)), q)), api.OK)
	checkLimit(t, "too large with its function", sized(n-1, app(lam("y", num(1)), q)), api.ErrSize)
	checkLimit(t, "two of them", sized(n/2, used(con("Pair", q, q))), api.ErrSize)
	checkLimit(t, "large parts", sized(n, con("Pair", q, q)), api.OK)
	checkLimit(t, "a function that yields it", sized(n-2, used(lam("z", q))), api.OK)
	checkLimit(t, "a function that yields too much", sized(n-1, used(lam("z", q))), api.ErrSize)
	// The function's type was in an equation that is solved and gone when its result grows, not the variable's.
	grown := func(n int, first api.Expr) api.Expr {
		return lam("x", let("u", first, sized(n, ifs(api.Expr{Kind: api.Bool}, v("x"), q))))
	}
	checkLimit(t, "what a solved equation had grows", grown(n, used(lam("z", v("x")))), api.OK)
	checkLimit(t, "a variable grows", lam("y", app(grown(n, used(v("y"))), v("y"))), api.ErrSize)
	checkLimit(t, "a bound variable grows", lam("y", lam("x", let("u", ifs(api.Expr{Kind: api.Bool}, v("y"), con("Some", v("x"))), sized(n, ifs(api.Expr{Kind: api.Bool}, v("x"), q))))), api.ErrSize)
	checkLimit(t, "a bound variable grows as much as it may", lam("y", lam("x", let("u", ifs(api.Expr{Kind: api.Bool}, v("y"), con("Some", v("x"))), sized(n-1, ifs(api.Expr{Kind: api.Bool}, v("x"), q))))), api.OK)
	checkLimit(t, "doubled", doubled(9), api.OK)
	checkLimit(t, "doubled too often", doubled(11), api.ErrSize)
	checkLimit(t, "doubled far too often", doubled(60), api.ErrSize)
	x, e := infer.Expr(declared, sized(n+1, v("q")))
	if size := typeSize(x); e != api.OK || size != n+3 {
		t.Errorf("%d nodes, %d", size, e)
	}
	_, main, e := infer.Infer(api.Program{Data: declared.Data, Effects: declared.Effects, Main: sized(n, con("Pair", v("q"), v("q")))})
	if size := typeSize(main); e != api.OK || size != 2*n+1 {
		t.Errorf("%d nodes, %d", size, e)
	}
}

// doubled returns applications that give variables types of which each is twice as large as the one before.
func doubled(n int) api.Expr {
	x := num(1)
	for range n {
		x = app(lam("q", x), con("Pair", v("q"), v("q")))
	}
	return lam("q", x)
}

func typeSize(x api.Type) int {
	n := 1
	for _, part := range x.L {
		n += typeSize(part)
	}
	return n
}

// P6.2, R7: a type in an equation has at most MaxDepth nodes within each other; of how deep the result is, nothing is asked.
func TestDeepestTypes(t *testing.T) {
	const f, n = 120, api.MaxDepth - 1 - 120
	apply := func(n int) api.Expr {
		return let("f", within(f, num(1)), let("g", within(n, v("f")), used(v("g"))))
	}
	checkLimit(t, "deepest", apply(n), api.OK)
	checkLimit(t, "too deep", apply(n+1), api.ErrSize)
	long := let("f", within(f, num(1)), within(n+1, v("f")))
	checkLimit(t, "too deep, not in an equation", long, api.OK)
	checkLimit(t, "deepest options", nested(api.MaxDepth-1, num(1)), api.OK)
	checkLimit(t, "too deep options", let("x", nested(100, num(1)), nested(101, v("x"))), api.ErrSize)
	checkLimit(t, "deepest options of a variable", let("x", nested(100, num(1)), nested(100, v("x"))), api.OK)
	// No type of the limits is an instance of one that is too large, but this is no error.
	for _, x := range []api.Expr{long, sized(api.MaxSize+1, v("q"))} {
		for _, text := range []string{"Unit -> t0", "t0", "Unit -> Int"} {
			if is, e := infer.Has(declared, x, typ(t, text)); is || e != api.OK {
				t.Errorf("%s: %t, %d", text, is, e)
			}
		}
	}
	if is, e := infer.Has(declared, nested(api.MaxDepth-3, num(1)), fun(tunit, closed(), deepType(api.MaxDepth-3, tint))); !is || e != api.OK {
		t.Errorf("%t, %d", is, e)
	}
}

// handlers returns an expression within so many handlers of one effect.
func handlers(n int, x api.Expr) api.Expr {
	for range n {
		x = api.Expr{Kind: api.Handle, S: "Ask", L: []api.Expr{x}, Arms: []api.Arm{arm("return", v("x"), "x"), arm("ask", v("n"), "n", "k")}}
	}
	return x
}

// masks returns an expression within so many masks of one effect.
func masks(n int, x api.Expr) api.Expr {
	for range n {
		x = api.Expr{Kind: api.Mask, S: "Ask", L: []api.Expr{x}}
	}
	return x
}

// P6.2, R7: a row in an equation, and what a row variable stands for, has at most 2*MaxDecls labels.
func TestLongestRows(t *testing.T) {
	const n = 2 * api.MaxDecls
	ask, wrong := do("ask", num(1)), do("ask", api.Expr{Kind: api.Unit})
	checkLimit(t, "longest", handlers(n, ask), api.OK)
	checkLimit(t, "too long", handlers(n+1, ask), api.ErrSize)
	checkLimit(t, "too long, and a clash", handlers(n+1, wrong), api.ErrSize)
	checkLimit(t, "too long, not in an equation", handlers(3*n, num(1)), api.OK)
	checkLimit(t, "longest of a variable", masks(n-1, ask), api.OK)
	checkLimit(t, "too long of a variable", masks(n, ask), api.ErrSize)
	checkLimit(t, "too long of a variable, and a clash", masks(n, wrong), api.ErrType)
	checkLimit(t, "handled masks", handlers(20, masks(20, ask)), api.OK)
	all := num(1)
	for _, f := range allEffects() {
		all = api.Expr{Kind: api.Mask, S: f.Name, L: []api.Expr{api.Expr{Kind: api.Mask, S: f.Name, L: []api.Expr{all}}}}
	}
	checkLimit(t, "many effects", masks(n-2*len(allEffects()), all), api.OK)
	checkLimit(t, "too many effects", masks(n-2*len(allEffects())+1, all), api.ErrSize)
	// The row grows behind the equation that was solved with it.
	grows := func(n int) api.Expr {
		return lam("f", let("u", app(v("f"), api.Expr{Kind: api.Unit}), let("y", num(1), masks(n, app(v("f"), api.Expr{Kind: api.Unit})))))
	}
	checkLimit(t, "a row of the environment", grows(3), api.ErrType)
}

// P6.2, R1: of what is too large by itself the error comes before that of a clash, which comes before that of what is too large by the solution; what is solved earlier comes first; scopes are asked for in the end.
func TestErrorsOfSolving(t *testing.T) {
	clash, none := prim("+", num(1), api.Expr{Kind: api.Unit}), num(1)
	large := sized(api.MaxSize+1, used(v("q")))
	leak := must("named h Ask (fun x -> h.ask x) { return f -> 1; ask n k -> n }")
	for _, c := range []struct {
		what string
		x    api.Expr
		e    api.Errno
	}{
		{"large, clash", con("Pair", large, clash), api.ErrSize}, {"clash, large", con("Pair", clash, large), api.ErrType}, {"clash behind large", sized(api.MaxSize+1, con("Pair", used(v("q")), clash)), api.ErrSize}, {"clash ahead of large", sized(api.MaxSize+1, con("Pair", clash, used(v("q")))), api.ErrSize},
		{"large argument, clash", sized(api.MaxSize, lam("g", con("Pair", app(v("g"), v("q")), clash))), api.ErrSize}, {"doubled, clash", con("Pair", doubled(30), clash), api.ErrType}, {"clash, doubled", con("Pair", clash, doubled(30)), api.ErrType}, {"doubled, solved, clash", let("u", doubled(30), clash), api.ErrSize}, {"doubled first", let("u", app(doubled(30), none), let("y", none, clash)), api.ErrSize}, {"clash first", let("u", clash, let("y", none, app(doubled(30), none))), api.ErrType},
		{"endless", must("fun f -> f f"), api.ErrType}, {"endless, doubled", con("Pair", must("fun f -> f f"), doubled(30)), api.ErrType}, {"endless in two steps", must("fun f -> fun g -> Pair[if true then f else Some[g], if true then g else Some[f]]"), api.ErrType}, {"endless behind a solution", must("fun f -> fun g -> let u = (if true then f else Some[g]) in let y = 1 in if true then g else Some[f]"), api.ErrType},
		{"another effect's operation", let("u", must("named h Ask h.get () { return x -> x; ask n k -> n }"), let("y", none, large)), api.ErrType}, {"leak", leak, api.ErrType}, {"leak, large", con("Pair", leak, large), api.ErrSize}, {"leak in a let", let("u", leak, let("y", none, masks(30, do("ask", none)))), api.ErrSize}, {"leak alone in a let", let("u", leak, let("y", none, masks(3, do("ask", none)))), api.ErrType},
	} {
		checkLimit(t, c.what, c.x, c.e)
	}
}

// P0.6: large programs, and types that would be exponentially large, take no time.
func TestLargePrograms(t *testing.T) {
	var lets, uses []api.Expr
	for range 420 {
		lets = append(lets, let("x", lam("y", app(v("f"), v("y"))), num(1)))
		uses = append(uses, must("let x = fun y -> Pair[y, y] in 1"))
	}
	text := "let d = fun x -> Pair[x, x] in " + strings.Repeat("let d = fun x -> d (d x) in ", 30)
	for i, c := range []struct {
		x api.Expr
		e api.Errno
	}{{lam("f", sum(lets...)), api.OK}, {sum(uses[:320]...), api.OK}, {must(text + "1"), api.ErrSize}, {must(text + "d 1"), api.ErrSize}, {doubled(90), api.ErrSize}} {
		if _, e := infer.Expr(declared, c.x); e != c.e {
			t.Errorf("%d: %d", i, e)
		}
	}
	// A result of a hundred thousand nodes.
	wide := v("q")
	for range 50 {
		wide = lam("x", let("u", ifs(api.Expr{Kind: api.Bool}, v("x"), v("q")), wide))
	}
	x, e := infer.Expr(declared, sized(2047, wide))
	if size := typeSize(x); e != api.OK || size != 51*2047+50+2 {
		t.Errorf("%d nodes, %d", size, e)
	}
}
