package scope_test

import (
	"math"
	"reflect"
	"slices"
	"strconv"
	"strings"
	"testing"

	"reprise/api"
	"reprise/scope"
	"reprise/syntax"
)

// malformed has an expression for each error of syntax.Check.
func malformed() map[api.Errno][]api.Expr {
	return map[api.Errno][]api.Expr{
		api.ErrArg: {
			{Kind: 20}, {Kind: -1}, {Kind: math.MaxInt}, {Kind: api.Var, S: "x", N: 1}, {Kind: api.Int, N: api.MaxInt + 1},
			{Kind: api.At, S: "h", T: "op", N: 1, L: []api.Expr{v("x")}}, chain(3, api.Expr{Kind: api.Handle, N: 2}),
		},
		api.ErrSize:  {chain(api.MaxDepth, v("x")), bush(api.MaxSize+1, v("x")), endless()},
		api.ErrName:  {v("X"), v(""), {Kind: api.Drop, S: "drop"}, {Kind: api.Var, S: "x", T: "y"}, {Kind: api.Using, Names: []string{"x", "e"}, L: make([]api.Expr, 3)}},
		api.ErrArity: {{Kind: api.App}, {Kind: api.Fun, L: []api.Expr{v("x")}}, {Kind: api.Drop, S: "k", Names: []string{"k"}}, {Kind: api.Handle, S: "E", L: []api.Expr{v("x")}}},
		api.ErrTwice: {
			{Kind: api.Rec, Names: []string{"f", "f"}, L: []api.Expr{v("f"), v("f")}},
			{Kind: api.Match, L: []api.Expr{v("x")}, Arms: []api.Arm{{Op: "C", Names: []string{"a", "a"}, Body: v("a")}}},
		},
	}
}

// endless returns an expression that contains itself.
func endless() api.Expr {
	e := api.Expr{Kind: api.Fun, Names: []string{"x"}, L: make([]api.Expr, 1)}
	e.L[0] = e
	return e
}

// R1, R2, R8: each function returns the error of syntax.Check for its first expression first, and zeros beside it.
func TestMalformed(t *testing.T) {
	for want, l := range malformed() {
		for i, e := range l {
			if got := syntax.Check(e); got != want {
				t.Fatalf("%d, %d: Check = %d", want, i, got)
			}
			wantRefused(t, e, want)
		}
	}
}

// wantRefused checks that all functions refuse an expression, whatever else is wrong.
func wantRefused(t *testing.T, e api.Expr, want api.Errno) {
	t.Helper()
	free, e1 := scope.Free(e)
	hands, e2 := scope.Handlers(e)
	closed, e3 := scope.Closed(e)
	names, e4 := scope.Names(e)
	uses, e5 := scope.Uses(e, "X")
	in, e6 := scope.Subst(e, "X", api.Expr{Kind: api.App})
	equal, e7 := scope.Alpha(e, api.Expr{Kind: 21})
	equal2, e8 := scope.Alpha(v("x"), e)
	canon, e9 := scope.Canon(e)
	unique, e10 := scope.Unique(e)
	for i, err := range []api.Errno{e1, e2, e3, e4, e5, e6, e7, e8, e9, e10} {
		if err != want {
			t.Errorf("function %d: error %d; want %d: kind %d", i+1, err, want, e.Kind)
		}
	}
	if len(free)+len(hands)+len(names)+uses != 0 || closed || equal || equal2 {
		t.Errorf("results beside an error: %v, %v, %v, %d, %t, %t, %t", free, hands, names, uses, closed, equal, equal2)
	}
	for _, out := range []api.Expr{in, canon, unique} {
		if !syntax.Same(out, api.Expr{}) {
			t.Errorf("an expression beside an error")
		}
	}
}

// P3.1 and P3.2: where each kind of nodes binds its names.
func TestFreeAndNames(t *testing.T) {
	for _, c := range []struct{ text, free, hands, names string }{
		{"x", "x", "", "x"}, {"1", "", "", ""}, {"()", "", "", ""}, {"true", "", "", ""},
		{"fun y -> x y", "x", "", "x y"}, {"fun x -> x", "", "", "x"}, {"fun x -> y", "y", "", "x y"}, {"(fun x -> x) x", "x", "", "x"},
		{"let x = x in x", "x", "", "x"}, {"let x = y in x", "y", "", "x y"}, {"let x = 1 in x", "", "", "x"}, {"let x = 1 in 2", "", "", "x"},
		{"rec f x = f x in f x", "x", "", "f x"}, {"rec f x = x f y in f", "y", "", "f x y"}, {"rec f x = 1 in 2", "", "", "f x"},
		{"if a then b else c", "a b c", "", "a b c"}, {"a + b", "a b", "", "a b"}, {"C[a, b, a]", "a b", "", "a b"}, {"do op x", "x", "", "x"}, {"mask E x", "x", "", "x"},
		{"using x [E, F] = x close c x in x", "c x", "", "c x"}, {"using x [] = a close b in x", "a b", "", "a b x"}, {"using x [E] = 1 close 2 in 3", "", "", "x"},
		{"match x { A -> a; B x -> x; C x y -> x y z }", "a x z", "", "a x y z"}, {"match x { A x -> y; B y -> x }", "x y", "", "x y"}, {"match x { }", "x", "", "x"},
		{"handle E (x k y) { return x -> x k; op x k -> x k y }", "k x y", "", "k x y"}, {"shallow E 1 { return r -> x; op x k -> r }", "r x", "", "k r x"},
		{"named h E (h.op (g.op h)) { return x -> h.op x; op a k -> k a h }", "h", "g h", "a g h k x"}, {"named h E (h.op 1) { return x -> x }", "", "", "h x"},
		{"named h E (fun h -> h.op h) { return h -> h }", "", "", "h"}, {"h.op x", "x", "h", "h x"}, {"fun h -> h.op h", "", "h", "h"}, {"named h E x { return x -> x }", "x", "", "h x"},
		{"resume k x", "k x", "", "k x"}, {"drop k", "k", "", "k"}, {"fun k -> resume k (drop k)", "", "", "k"},
		{"zb za z10 z9 z_ _ a_1", "_ a_1 z10 z9 z_ za zb", "", "_ a_1 z10 z9 z_ za zb"}, {"b.x (a.x (b.x c))", "c", "a b", "a b c"},
	} {
		e := parsed(t, c.text)
		free, e1 := scope.Free(e)
		hands, e2 := scope.Handlers(e)
		names, e3 := scope.Names(e)
		closed, e4 := scope.Closed(e)
		if !slices.Equal(free, strings.Fields(c.free)) || !slices.Equal(hands, strings.Fields(c.hands)) || !slices.Equal(names, strings.Fields(c.names)) || closed != (c.free+c.hands == "") {
			t.Errorf("%s: Free = %v, Handlers = %v, Names = %v, Closed = %t", c.text, free, hands, names, closed)
		}
		if e1 != api.OK || e2 != api.OK || e3 != api.OK || e4 != api.OK {
			t.Errorf("%s: %d, %d, %d, %d", c.text, e1, e2, e3, e4)
		}
	}
}

// P3.2: free occurrences are counted, where variables are asked for.
func TestUses(t *testing.T) {
	for _, c := range []struct {
		text, x string
		want    int
	}{
		{"let x = x in x", "x", 1}, {"fun y -> x y", "x", 1}, {"fun y -> x y", "y", 0}, {"x x (fun x -> x)", "x", 2}, {"1", "x", 0}, {"x", "y", 0},
		{"resume x (drop x)", "x", 2}, {"x.op (x + x)", "x", 2}, {"rec f x = f x in f x", "x", 1}, {"rec f x = f x in f x", "f", 0}, {"do x x", "x", 1},
		{"using x [] = x close x in x", "x", 2}, {"match x { A x -> x; B y -> x }", "x", 2}, {"handle E x { return x -> x; x k x -> x; y x k -> x }", "x", 1},
		{"named x E x { return y -> x }", "x", 2},
	} {
		if n, err := scope.Uses(parsed(t, c.text), c.x); n != c.want || err != api.OK {
			t.Errorf("Uses(%s, %s) = %d, %d; want %d", c.text, c.x, n, err, c.want)
		}
	}
	for _, x := range noNames {
		if n, err := scope.Uses(v("x"), x); n != 0 || err != api.ErrName {
			t.Errorf("Uses of %q = %d, %d", x, n, err)
		}
	}
	large := bush(api.MaxSize, v("x"))
	if n, err := scope.Uses(large, "x"); n != modelUses(&large, false, "x") || n < api.MaxSize/2 || err != api.OK {
		t.Errorf("Uses in a large expression = %d, %d", n, err)
	}
}

// P3.3.
func TestFresh(t *testing.T) {
	all9 := "abcdefghijk0 abcdefghijk1 abcdefghijk2 abcdefghijk3 abcdefghijk4 abcdefghijk5 abcdefghijk6 abcdefghijk7 abcdefghijk8 abcdefghijk9"
	for _, c := range []struct{ base, used, want string }{
		{"x", "", "x"}, {"x", "y x0", "x"}, {"x", "x", "x0"}, {"x", "x x1", "x0"}, {"x", "x0 x1 x3 x", "x2"}, {"x", "x x x0 x0", "x1"}, {"x9", "x9", "x0"}, {"x9", "x9 x0", "x1"}, {"x9", "x x0 x1", "x9"},
		{"x1", "x1 x0", "x2"}, {"x007", "x007", "x0"}, {"x1y2", "x1y2 x1y0", "x1y1"}, {"_", "_", "_0"}, {"_1", "_1 _0", "_2"}, {"x_1", "x_1", "x_0"}, {"aB9", "aB9", "aB0"},
		{"abcdefghijkl", "abcdefghijk0", "abcdefghijkl"}, {"abcdefghijkl", "abcdefghijkl", "abcdefghijk0"}, {"abcdefghijkl", "abcdefghijkl " + all9, "abcdefghij10"}, {"abcdefghijk0", all9, "abcdefghij10"},
		{"abcdefghij12", "abcdefghij12", "abcdefghij0"}, {"a12345678901", "a12345678901 a0", "a1"}, {"abcdefghi1kl", "abcdefghi1kl", "abcdefghi1k0"}, {"x", "X 0 + x  fun", "x0"}, {"lets", "lets", "lets0"}, {"let0", "let0 let1", "let2"},
	} {
		if got, err := scope.Fresh(c.base, strings.Fields(c.used)); got != c.want || err != api.OK {
			t.Errorf("Fresh(%s, %s) = %q, %d; want %q", c.base, c.used, got, err, c.want)
		}
	}
	for _, base := range noNames {
		if got, err := scope.Fresh(base, []string{base}); got != "" || err != api.ErrName {
			t.Errorf("Fresh(%q) = %q, %d", base, got, err)
		}
	}
	used := []string{"x"}
	for n := range 12000 {
		used = append(used, "x"+strconv.Itoa(n))
	}
	if got, err := scope.Fresh("x", used); got != "x12000" || err != api.OK {
		t.Errorf("Fresh with many names = %q, %d", got, err)
	}
}

// P3.4: each kind of nodes, the names that capture and those that do not.
func TestSubst(t *testing.T) {
	for _, c := range []struct{ text, x, v, want string }{
		{"x", "x", "1", "1"}, {"x", "y", "1", "x"}, {"x x", "x", "f y", "f y (f y)"}, {"fun y -> x y", "x", "z", "fun y -> z y"}, {"fun y -> x y", "x", "y", "fun y0 -> y y0"}, {"let x = x in x", "x", "1", "let x = 1 in x"},
		{"fun y -> y", "x", "y", "fun y -> y"}, {"fun x -> x", "x", "y", "fun x -> x"}, {"fun y -> x", "x", "fun y -> y", "fun y -> fun y -> y"}, {"fun y9 -> x y0", "x", "y9", "fun y1 -> y9 y0"},
		{"fun x0 -> x x0", "x", "x0", "fun x1 -> x0 x1"}, {"fun y -> x", "x", "y + y0 + y1", "fun y2 -> y + y0 + y1"},
		// From the outside to the inside: an inner name may be renamed to what the outer one was, where that one does not occur.
		{"fun y -> fun y0 -> x y y0", "x", "y y0", "fun y1 -> fun y2 -> y y0 y1 y2"}, {"fun y -> fun y0 -> x y0", "x", "y y0", "fun y1 -> fun y1 -> y y0 y1"}, {"fun y -> fun y -> x y", "x", "y", "fun y0 -> fun y0 -> y y0"}, {"fun y -> y (fun y -> x y)", "x", "y", "fun y0 -> y0 (fun y0 -> y y0)"},
		{"fun y -> (fun y -> y) (x y)", "x", "y", "fun y0 -> (fun y -> y) (y y0)"}, {"fun y -> fun z -> x y", "x", "z", "fun y -> fun z0 -> z y"},
		{"let y = x y in y", "x", "y", "let y = y y in y"}, {"let y = x in x y", "x", "y", "let y0 = y in y y0"}, {"let y = 1 in let x = x y in x y", "x", "y", "let y0 = 1 in let x = y y0 in x y0"},
		{"rec f p = f p in f x", "x", "f", "rec f0 p = f0 p in f0 f"}, {"rec f p = f p in f x", "x", "p", "rec f p = f p in f p"}, {"rec f p = x in f", "x", "f p", "rec f0 p0 = f p in f0"}, {"rec f p = x in f", "x", "p f", "rec f0 p0 = p f in f0"}, {"rec x p = x in x", "x", "p", "rec x p = x in x"}, {"rec f x = x f in x f", "x", "f", "rec f0 x = x f0 in f f0"},
		{"rec y y0 = x in x", "x", "y y0", "rec y1 y2 = y y0 in y y0"}, {"rec y y0 = y y0 in x", "x", "y y0", "rec y1 y0 = y1 y0 in y y0"},
		{"using y [E] = x y close x y in x y", "x", "y", "using y0 [E] = y y close y y in y y0"}, {"using y [E] = x close x in y", "x", "y", "using y [E] = y close y in y"}, {"using x [] = x close x in x", "x", "y", "using x [] = y close y in x"},
		{"match x { A y -> y; B y z -> x y z; C y z -> x y }", "x", "y", "match y { A y -> y; B y0 z -> y y0 z; C y1 z -> y y1 }"}, {"match x { A x -> x; B y -> x }", "x", "z y", "match z y { A x -> x; B y0 -> z y }"}, {"match 1 { A y z -> x; B z y -> x }", "x", "y z", "match 1 { A y0 z0 -> y z; B z1 y1 -> y z }"},
		{"handle E x { return y -> y; op y k -> k x }", "x", "y k", "handle E y k { return y -> y; op y0 k0 -> k0 (y k) }"}, {"shallow E y { return y -> x y; op x k -> x k }", "x", "k y", "shallow E y { return y0 -> k y y0; op x k -> x k }"},
		{"handle E 1 { return y -> 2; op k y -> resume y x }", "x", "y", "handle E 1 { return y -> 2; op k y0 -> resume y0 y }"},
		{"do op x", "x", "op", "do op op"}, {"mask E x", "x", "y", "mask E y"}, {"if x then x else y", "x", "1", "if 1 then 1 else y"}, {"C[x, D[x]]", "x", "1 + 2", "C[1 + 2, D[1 + 2]]"},
		// Handler names are a namespace of their own, and share the list of new names.
		{"named h E (h.op x) { return y -> x }", "x", "h.op 1", "named h0 E (h0.op (h.op 1)) { return y -> h.op 1 }"}, {"named h E (h.op 1) { return y -> x }", "x", "h.op 1", "named h E (h.op 1) { return y -> h.op 1 }"}, {"named h E (h.op x) { return y -> x }", "x", "h", "named h E (h.op h) { return y -> h }"},
		{"fun h -> x h", "x", "h.op 1", "fun h -> h.op 1 h"}, {"x.op x", "x", "y", "x.op y"}, {"named x E (x.op x) { return x -> x }", "x", "y", "named x E (x.op y) { return x -> x }"}, {"named h E (x h0 y0) { return y -> x }", "x", "h.op y", "named h1 E (h.op y h0 y0) { return y1 -> h.op y }"},
		{"named h E x { return h -> x; op h k -> x h }", "x", "h.op h", "named h2 E (h.op h) { return h0 -> h.op h; op h1 k -> h.op h h1 }"}, {"named h E (named h E (h.op x) { return y -> y }) { return y -> y }", "x", "h.op 1", "named h0 E (named h0 E (h0.op (h.op 1)) { return y -> y }) { return y -> y }"},
		// Resumptions are renamed, or bound.
		{"resume x (drop x)", "x", "y", "resume y (drop y)"}, {"resume x (x x)", "x", "y", "resume y (y y)"}, {"fun y -> resume x y", "x", "y", "fun y0 -> resume y y0"}, {"fun y -> x (drop y)", "x", "y", "fun y0 -> y (drop y0)"}, {"fun x -> resume x (drop x)", "x", "1", "fun x -> resume x (drop x)"}, {"resume y x", "x", "1", "resume y 1"},
		{"fun abcdefghijkl -> x abcdefghijkl", "x", "abcdefghijkl", "fun abcdefghijk0 -> abcdefghijkl abcdefghijk0"},
		{"rec abcdefghijkl abcdefghijkm = x in 1", "x", "abcdefghijkm abcdefghijkl", "rec abcdefghijk0 abcdefghijk1 = abcdefghijkm abcdefghijkl in 1"}, {"match 1 { C y -> x; D y -> x; E z -> x y }", "x", "y", "match 1 { C y0 -> y; D y1 -> y; E z -> y y }"},
	} {
		e, value, want := parsed(t, c.text), parsed(t, c.v), parsed(t, c.want)
		got, err := scope.Subst(e, c.x, value)
		if !syntax.Same(got, want) || err != api.OK {
			t.Errorf("Subst(%s, %s, %s) = %s, %d; want %s", c.text, c.x, c.v, shown(got), err, c.want)
		}
		if model := substituted(e, c.x, value); !syntax.Same(model, want) {
			t.Errorf("the model has Subst(%s, %s, %s) = %s; want %s", c.text, c.x, c.v, shown(model), c.want)
		}
	}
}

// P3.4: the errors of Subst, in their order.
func TestSubstErrors(t *testing.T) {
	none := api.Expr{Kind: 20}
	for i, c := range []struct {
		e    api.Expr
		x    string
		v    api.Expr
		want api.Errno
	}{
		{none, "X", api.Expr{Kind: api.App}, api.ErrArg}, {api.Expr{Kind: api.App}, "X", none, api.ErrArity},
		{v("x"), "X", none, api.ErrName}, {v("x"), "", v("x"), api.ErrName}, {parsed(t, "drop k"), "k l", parsed(t, "1"), api.ErrName},
		{v("x"), "x", none, api.ErrArg}, {v("x"), "y", none, api.ErrArg}, {v("x"), "y", endless(), api.ErrSize}, {parsed(t, "drop x"), "x", v("X"), api.ErrName},
		{parsed(t, "drop x"), "x", parsed(t, "1"), api.ErrArg}, {parsed(t, "fun y -> resume x 1"), "x", parsed(t, "fun y -> y"), api.ErrArg}, {parsed(t, "x (drop x)"), "x", parsed(t, "drop x"), api.ErrArg},
		{parsed(t, "handle E 1 { return x -> drop x; op y k -> drop x }"), "x", parsed(t, "()"), api.ErrArg}, {parsed(t, "handle E 1 { return x -> drop x; op y k -> drop k }"), "x", parsed(t, "()"), api.OK},
		{parsed(t, "drop x"), "y", parsed(t, "1"), api.OK}, {parsed(t, "x.op 1"), "x", parsed(t, "1"), api.OK},
		// ErrArg comes before ErrSize.
		{api.Expr{Kind: api.App, L: []api.Expr{bush(api.MaxSize-2, v("x")), {Kind: api.Drop, S: "x"}}}, "x", parsed(t, "1 + 1"), api.ErrArg},
	} {
		got, err := scope.Subst(c.e, c.x, c.v)
		if err != c.want || err != api.OK && !syntax.Same(got, api.Expr{}) {
			t.Errorf("%d: %d; want %d", i, err, c.want)
		}
	}
	for _, x := range noNames {
		if got, err := scope.Subst(v("x"), x, v("y")); err != api.ErrName || !syntax.Same(got, api.Expr{}) {
			t.Errorf("Subst for %q: %d", x, err)
		}
	}
}

// P3.4, R7: the limits of the result.
func TestSubstLimits(t *testing.T) {
	most, app := api.MaxSize, parsed(t, "1 + 1")
	two := api.Expr{Kind: api.App, L: []api.Expr{v("x"), v("x")}}
	for i, c := range []struct {
		e, v        api.Expr
		size, depth int // 0: ErrSize
	}{
		{v("x"), bush(most, v("y")), most, 0}, {two, bush((most-1)/2, v("y")), most - 1, 0}, {two, bush(most/2, v("y")), 0, 0}, {bush(most, v("y")), app, most, 0}, {bush(most, v("x")), v("y"), most, 0}, {bush(most, v("x")), app, 0, 0}, {bush(most, v("x")), bush(most, v("y")), 0, 0},
		{chain(api.MaxDepth-1, v("x")), v("y"), 0 + api.MaxDepth, api.MaxDepth}, {chain(api.MaxDepth-1, v("x")), app, 0, 0}, {chain(api.MaxDepth-2, v("x")), app, api.MaxDepth + 1, api.MaxDepth}, {chain(100, v("x")), chain(99, v("y")), api.MaxDepth, api.MaxDepth}, {chain(100, v("x")), chain(100, v("y")), 0, 0},
		{api.Expr{Kind: api.App, L: []api.Expr{v("x"), chain(api.MaxDepth-2, v("y"))}}, chain(api.MaxDepth-2, v("y")), 2*api.MaxDepth - 1, api.MaxDepth}, {v("y"), chain(api.MaxDepth-1, v("y")), 1, 1},
	} {
		got, err := scope.Subst(c.e, "x", c.v)
		if c.size == 0 {
			if err != api.ErrSize || !syntax.Same(got, api.Expr{}) {
				t.Errorf("%d: %d; want ErrSize", i, err)
			}
			continue
		}
		if err != api.OK || syntax.Size(got) != c.size || c.depth > 0 && syntax.Depth(got) != c.depth {
			t.Errorf("%d: %d, size %d, depth %d; want %d, %d", i, err, syntax.Size(got), syntax.Depth(got), c.size, c.depth)
		}
	}
	deep := api.Expr{Kind: api.Resume, S: "x", L: []api.Expr{chain(api.MaxDepth-2, v("x"))}}
	if got, err := scope.Subst(deep, "x", v("y")); err != api.OK || got.S != "y" || syntax.Depth(got) != api.MaxDepth {
		t.Errorf("a deep Resume: %d", err)
	}
}

// P3.5 and P3.10.
func TestAlpha(t *testing.T) {
	for _, c := range []struct {
		a, b string
		want bool
	}{
		{"fun a -> a", "fun b -> b", true}, {"fun a -> a", "fun a -> c", false}, {"a", "b", false}, {"a", "a", true}, {"1", "2", false}, {"1", "a", false}, {"true", "false", false}, {"()", "()", true},
		{"fun a -> c", "fun c -> c", false}, {"fun a -> fun b -> a", "fun a -> fun a -> a", false}, {"fun a -> fun b -> b", "fun a -> fun a -> a", true}, {"fun a -> fun b -> a b", "fun b -> fun a -> b a", true}, {"fun a -> fun b -> a b", "fun a -> fun b -> b a", false},
		{"fun v0 -> v0", "fun x -> v0", false}, {"fun x -> x v0", "fun v1 -> v1 v0", true}, {"let x = x in x", "let y = x in y", true}, {"let x = x in x", "let y = y in y", false}, {"let x = 1 in x", "(fun x -> x) 1", false},
		{"rec f x = f x in f", "rec g y = g y in g", true}, {"rec f x = f x in f", "rec x f = x f in x", true}, {"rec f x = f x in f", "rec f x = x f in f", false}, {"rec f x = f x in x", "rec g y = g y in y", false}, {"rec f x = f x in x", "rec g y = g y in x", true},
		{"using x [E] = x close x in x", "using y [E] = x close x in y", true}, {"using x [E] = 1 close 2 in x", "using x [F] = 1 close 2 in x", false}, {"using x [E, F] = 1 close 2 in x", "using x [F, E] = 1 close 2 in x", false}, {"using x [E] = 1 close 2 in x", "using x [] = 1 close 2 in x", false},
		{"match 1 { C a b -> a }", "match 1 { C b a -> b }", true}, {"match 1 { C a b -> a }", "match 1 { C a b -> b }", false}, {"match 1 { C a -> a }", "match 1 { D a -> a }", false}, {"match 1 { C a -> 1 }", "match 1 { C a b -> 1 }", false}, {"match 1 { C a -> 1 }", "match 1 { C b -> 1 }", true}, {"match 1 { C -> 1; D -> 2 }", "match 1 { D -> 2; C -> 1 }", false}, {"match 1 { C -> 1 }", "match 1 { C -> 1; D -> 2 }", false},
		{"handle E 1 { return x -> x; op x k -> resume k x }", "handle E 1 { return y -> y; op k x -> resume x k }", true}, {"handle E 1 { return x -> x }", "shallow E 1 { return x -> x }", false}, {"handle E 1 { return x -> x }", "handle F 1 { return x -> x }", false}, {"handle E 1 { return x -> x; op x k -> drop k }", "handle E 1 { return x -> x; op x k -> drop x }", false}, {"handle E 1 { return x -> x; op x k -> 1 }", "handle E 1 { return x -> x; po x k -> 1 }", false},
		{"named h E (h.op x) { return y -> y }", "named g E (g.op x) { return x -> x }", true}, {"named h E (g.op x) { return y -> y }", "named g E (g.op x) { return y -> y }", false}, {"named h E (h.op h) { return y -> y }", "named g E (g.op g) { return y -> y }", false}, {"named h E (fun h -> h.op h) { return y -> y }", "named g E (fun x -> g.op x) { return y -> y }", true}, {"named h E 1 { return y -> h.op y }", "named g E 1 { return y -> h.op y }", true}, {"named h E 1 { return y -> h.op y }", "named g E 1 { return y -> g.op y }", false},
		{"h.op 1", "g.op 1", false}, {"h.op 1", "h.po 1", false}, {"do op 1", "do po 1", false}, {"mask E 1", "mask F 1", false}, {"1 + 2", "1 - 2", false}, {"C[1]", "D[1]", false}, {"C[1]", "C[1, 1]", false}, {"f x", "x f", false}, {"drop a", "drop b", false}, {"fun a -> drop a", "fun b -> drop b", true}, {"fun a -> resume a b", "fun b -> resume b b", false},
	} {
		a, b := parsed(t, c.a), parsed(t, c.b)
		there, e1 := scope.Alpha(a, b)
		back, e2 := scope.Alpha(b, a)
		p, e3 := scope.Canon(a)
		q, e4 := scope.Canon(b)
		if there != c.want || back != c.want || syntax.Same(p, q) != c.want || e1 != api.OK || e2 != api.OK || e3 != api.OK || e4 != api.OK {
			t.Errorf("Alpha of %s and %s: %t, %t, canonical forms %s and %s", c.a, c.b, there, back, shown(p), shown(q))
		}
		if modelAlpha(a, b) != c.want {
			t.Errorf("the model has %t for %s and %s", !c.want, c.a, c.b)
		}
	}
	for i, c := range []struct {
		a, b api.Expr
		want api.Errno
	}{{api.Expr{Kind: 20}, v("X"), api.ErrArg}, {v("X"), api.Expr{Kind: 20}, api.ErrName}, {v("x"), api.Expr{Kind: 20}, api.ErrArg}, {api.Expr{Kind: 20}, v("x"), api.ErrArg}} {
		if equal, err := scope.Alpha(c.a, c.b); equal || err != c.want {
			t.Errorf("%d: Alpha = %t, %d", i, equal, err)
		}
	}
}

// P3.6.
func TestCanonAndUnique(t *testing.T) {
	for _, c := range []struct{ text, canon, unique string }{
		{"x", "x", "x"}, {"1", "1", "1"}, {"fun a -> fun b -> a v0", "fun v1 -> fun v2 -> v1 v0", "fun a -> fun b -> a v0"}, {"fun a -> fun a -> a", "fun v0 -> fun v1 -> v1", "fun a -> fun a0 -> a0"},
		{"a (fun a -> a)", "a (fun v0 -> v0)", "a (fun a0 -> a0)"}, {"(fun a -> a) a", "(fun v0 -> v0) a", "(fun a0 -> a0) a"}, {"(fun a -> a) (fun a -> a0)", "(fun v0 -> v0) (fun v1 -> a0)", "(fun a -> a) (fun a1 -> a0)"}, {"fun v1 -> fun v0 -> v1", "fun v0 -> fun v1 -> v0", "fun v1 -> fun v0 -> v1"}, {"fun a -> v0 v2 (fun b -> fun c -> b)", "fun v1 -> v0 v2 (fun v3 -> fun v4 -> v3)", "fun a -> v0 v2 (fun b -> fun c -> b)"},
		{"fun a -> fun a -> fun a0 -> fun a -> a a0", "fun v0 -> fun v1 -> fun v2 -> fun v3 -> v3 v2", "fun a -> fun a1 -> fun a0 -> fun a2 -> a2 a0"}, {"fun a9 -> fun a9 -> a9", "fun v0 -> fun v1 -> v1", "fun a9 -> fun a0 -> a0"}, {"fun abcdefghijkl -> fun abcdefghijkl -> 1", "fun v0 -> fun v1 -> 1", "fun abcdefghijkl -> fun abcdefghijk0 -> 1"},
		{"fun abcdefghijkl -> fun abcdefghijkl -> fun abcdefghijkm -> fun abcdefghijkm -> 1", "fun v0 -> fun v1 -> fun v2 -> fun v3 -> 1", "fun abcdefghijkl -> fun abcdefghijk0 -> fun abcdefghijkm -> fun abcdefghijk1 -> 1"},
		{"let x = fun x -> x in x", "let v0 = fun v1 -> v1 in v0", "let x = fun x0 -> x0 in x"}, {"rec f x = fun f -> f x in fun x -> f x", "rec v0 v1 = fun v2 -> v2 v1 in fun v3 -> v0 v3", "rec f x = fun f0 -> f0 x in fun x0 -> f x0"}, {"rec f x = x in f x", "rec v0 v1 = v1 in v0 x", "rec f x0 = x0 in f x"},
		{"using x [E, F] = fun x -> x close fun x -> x in x", "using v0 [E, F] = fun v1 -> v1 close fun v2 -> v2 in v0", "using x [E, F] = fun x0 -> x0 close fun x1 -> x1 in x"},
		{"match fun a -> a { C a b -> fun b -> a b; D b a -> b a }", "match fun v0 -> v0 { C v1 v2 -> fun v3 -> v1 v3; D v4 v5 -> v4 v5 }", "match fun a -> a { C a0 b -> fun b0 -> a0 b0; D b1 a1 -> b1 a1 }"},
		{"handle E fun x -> x { return x -> fun y -> x y; op y k -> resume k (fun x -> drop y) }", "handle E fun v0 -> v0 { return v1 -> fun v2 -> v1 v2; op v3 v4 -> resume v4 (fun v5 -> drop v3) }", "handle E fun x -> x { return x0 -> fun y -> x0 y; op y0 k -> resume k (fun x1 -> drop y0) }"},
		{"named h E (named h E (h.op (h0.op h)) { return x -> h.op x }) { return x -> g.op x }", "named h1 E (named h2 E (h2.op (h0.op h)) { return v0 -> h1.op v0 }) { return v1 -> g.op v1 }", "named h E (named h1 E (h1.op (h0.op h)) { return x -> h.op x }) { return x0 -> g.op x0 }"},
		// A handler name may be the same as a variable, also when both are new.
		{"named x E (x.op (fun x -> x)) { return x -> x }", "named h0 E (h0.op (fun v0 -> v0)) { return v1 -> v1 }", "named x E (x.op (fun x -> x)) { return x0 -> x0 }"}, {"x (x.op (named x E (x.op (fun x -> x)) { return y -> y }))", "x (x.op (named h0 E (h0.op (fun v0 -> v0)) { return v1 -> v1 }))", "x (x.op (named x0 E (x0.op (fun x0 -> x0)) { return y -> y }))"},
		{"fun v -> v0.op h0 v", "fun v0 -> v0.op h0 v0", "fun v -> v0.op h0 v"}, {"named g E (g.op h0) { return y -> v0 }", "named h0 E (h0.op h0) { return v1 -> v0 }", "named g E (g.op h0) { return y -> v0 }"},
	} {
		e := parsed(t, c.text)
		canon, e1 := scope.Canon(e)
		unique, e2 := scope.Unique(e)
		if !syntax.Same(canon, parsed(t, c.canon)) || !syntax.Same(unique, parsed(t, c.unique)) || e1 != api.OK || e2 != api.OK {
			t.Errorf("%s: Canon = %s, %d; Unique = %s, %d", c.text, shown(canon), e1, shown(unique), e2)
		}
		if !syntax.Same(canon, modelCanon(e)) || !syntax.Same(unique, modelUnique(e)) {
			t.Errorf("%s: the models have %s and %s", c.text, shown(modelCanon(e)), shown(modelUnique(e)))
		}
	}
}

// P3.6: a name that is cut at one of its digits may be the same with two numbers.
func TestUniqueOfCutNames(t *testing.T) {
	e := v("x")
	for range 150 {
		e = api.Expr{Kind: api.Fun, Names: []string{"abcdefghi1jk"}, L: []api.Expr{e}}
	}
	got, err := scope.Unique(e)
	if want := modelUnique(e); !syntax.Same(got, want) || err != api.OK {
		t.Errorf("Unique = %s, %d; want %s", shown(got), err, shown(want))
	}
	wantDistinct(t, got)
}

// P3.6, P0.6: expressions at the limits, with very many names.
func TestManyNames(t *testing.T) {
	e := v("x")
	for syntax.Size(e) < api.MaxSize-10 {
		m := api.Expr{Kind: api.Match, L: []api.Expr{e}}
		for _, op := range []string{"A", "B", "C", "D", "E", "F", "G", "H", "I"} {
			m.Arms = append(m.Arms, api.Arm{Op: op, Names: []string{"x", "x0", "x1", "x2"}, Body: v("x1")})
		}
		if syntax.Check(m) != api.OK {
			break
		}
		e = m
	}
	unique, err := scope.Unique(e)
	if err != api.OK || shared(unique) {
		t.Fatalf("Unique = %d", err)
	}
	seen := map[string]bool{}
	for _, n := range everyNode(&unique) {
		for _, s := range sites(n) {
			if seen[*s.name] || *s.name == "x" {
				t.Fatalf("%s is bound twice, or free", *s.name)
			}
			seen[*s.name] = true
		}
	}
	if same, err := scope.Alpha(e, unique); !same || err != api.OK || len(seen) < 5000 {
		t.Errorf("Alpha = %t, %d; %d names", same, err, len(seen))
	}
	if again, err := scope.Unique(unique); !reflect.DeepEqual(again, unique) || err != api.OK {
		t.Errorf("Unique changes what it returned")
	}
}
