package syntax_test

import (
	"reflect"
	"slices"
	"strings"
	"testing"

	"reprise/api"
	"reprise/lexer"
	"reprise/syntax"
)

// wantCheck checks the error of an expression, and what follows from it.
func wantCheck(t *testing.T, what string, e api.Expr, want api.Errno) {
	t.Helper()
	if got := syntax.Check(e); got != want {
		t.Errorf("%s: Check = %d; want %d: %v", what, got, want, e)
	}
	if s, got := syntax.Show(e); got != want || (s == "") != (want != api.OK) {
		t.Errorf("%s: Show = %q, %d; want %d", what, s, got, want)
	}
	if got := syntax.CheckProgram(api.Program{Main: e}); got != want {
		t.Errorf("%s: CheckProgram = %d; want %d", what, got, want)
	}
	if want != api.OK && (syntax.Size(e) != 0 || syntax.Depth(e) != 0) {
		t.Errorf("%s: size %d, depth %d", what, syntax.Size(e), syntax.Depth(e))
	}
}

// P2.1: a node of each kind is well formed, and the only kinds are those.
func TestCheckKinds(t *testing.T) {
	for i, e := range onePerKind() {
		if e.Kind != api.Kind(i) {
			t.Fatalf("%v is not of the kind %d", e, i)
		}
		wantCheck(t, "one per kind", e, api.OK)
		e.Kind = 20 + api.Kind(i)
		wantCheck(t, "no kind", e, api.ErrArg)
		e.Kind = -1 - api.Kind(i)
		wantCheck(t, "no kind", e, api.ErrArg)
	}
}

// P2.1: N of each kind.
func TestCheckNumbers(t *testing.T) {
	for _, e := range onePerKind() {
		for _, n := range someNs {
			want := api.ErrArg
			switch {
			case n == 0,
				e.Kind == api.Int && n >= -999999999 && n <= 999999999,
				(e.Kind == api.Bool || e.Kind == api.Handle) && n == 1:
				want = api.OK
			}
			e.N = n
			wantCheck(t, "N", e, want)
		}
	}
}

// P2.1: S and T of each kind.
func TestCheckNames(t *testing.T) {
	classes := "lower 0 0 0 0 0 0 0 0 op upper 0 lower lower upper upper upper 0 lower lower"
	for i, class := range strings.Fields(classes) {
		e := onePerKind()[i]
		for _, s := range slices.Concat(someVars, someUppers, someWrong, []string{"*", "<", "-", "=", "->"}) {
			ok := false
			switch class {
			case "lower":
				ok = lexer.IsVar(s)
			case "upper":
				ok = lexer.IsUpper(s)
			case "op":
				ok = s == "+" || s == "-" || s == "*" || s == "<" || s == "=="
			default:
				ok = s == ""
			}
			e.S = s
			wantCheck(t, "S", e, map[bool]api.Errno{true: api.OK, false: api.ErrName}[ok])
		}
		e = onePerKind()[i]
		for _, s := range slices.Concat(someVars, someUppers, someWrong) {
			e.T = s
			ok := s == "" && e.Kind != api.At || e.Kind == api.At && lexer.IsVar(s)
			wantCheck(t, "T", e, map[bool]api.Errno{true: api.OK, false: api.ErrName}[ok])
		}
	}
}

// P2.1: the numbers of parts, names and arms of each kind.
func TestCheckArity(t *testing.T) {
	parts := []int{0, 0, 0, 0, 1, 2, 2, 2, 3, 2, -1, 1, 1, 1, 1, 1, 1, 3, 1, 0}
	count := []int{0, 0, 0, 0, 1, 0, 1, 2, 0, 0, 0, 0, 0, 0, 0, 1, 0, -1, 0, 0}
	for i := range onePerKind() {
		for n := range 16 {
			e := onePerKind()[i]
			e.L = slices.Repeat(exprs(unit()), n)
			ok := n == parts[i] || parts[i] == -1 && n <= api.MaxArgs
			wantCheck(t, "L", e, map[bool]api.Errno{true: api.OK, false: api.ErrArity}[ok])

			e = onePerKind()[i]
			e.Names = strings.Fields("a b c d e f g h i j k l m n o p")[:n]
			if e.Kind == api.Using && n > 1 {
				e.Names = strings.Fields("a B C D E F G H I J K L M N O P")[:n]
			}
			ok = n == count[i] || count[i] == -1 && n >= 1 && n <= 1+api.MaxDecls
			wantCheck(t, "Names", e, map[bool]api.Errno{true: api.OK, false: api.ErrArity}[ok])

			wantArms(t, i, n)
		}
	}
}

// wantArms checks a node of a kind with n arms.
func wantArms(t *testing.T, kind, n int) {
	t.Helper()
	e := onePerKind()[kind]
	e.Arms = nil
	match := e.Kind == api.Match
	for i := range n {
		switch {
		case match:
			e.Arms = append(e.Arms, arm("C"+lexer.Digits(i), unit()))
		case i == 0:
			e.Arms = arms(ret(unit()))
		default:
			e.Arms = append(e.Arms, arm("op"+lexer.Digits(i), unit(), "x", "k"))
		}
	}
	handler := e.Kind == api.Handle || e.Kind == api.Named
	ok := n == 0 && !handler || (match || handler) && n > 0 && n <= 1+api.MaxCases
	wantCheck(t, "Arms", e, map[bool]api.Errno{true: api.OK, false: api.ErrArity}[ok])
}

// P2.1: names that are bound, and arms.
func TestCheckBound(t *testing.T) {
	u := unit()
	for _, c := range []struct {
		e    api.Expr
		want api.Errno
	}{
		{fun("X", u), api.ErrName}, {fun("", u), api.ErrName}, {fun("in", u), api.ErrName}, {let("1", u, u), api.ErrName},
		{rec("f", "f", u, u), api.ErrTwice}, {rec("F", "F", u, u), api.ErrName}, {rec("f", "F", u, u), api.ErrName}, {named("E", "E", u, ret(u)), api.ErrName},
		{using(names("X"), u, u, u), api.ErrName}, {using(names("x", "y"), u, u, u), api.ErrName}, {using(names("X", "x"), u, u, u), api.ErrName},
		{using(names("x", "E", "E"), u, u, u), api.ErrTwice}, {using(names("x", "E", "e", "E"), u, u, u), api.ErrName}, {using(names("x", "E", "E", "e"), u, u, u), api.ErrTwice},
		{using(names("x", "E", "F", "E"), u, u, u), api.ErrTwice}, {using(names("x", "IO", "F"), u, u, u), api.OK},
		{match(u, arm("C", u, "a", "b", "c", "d")), api.OK}, {match(u, arm("C", u, "a", "b", "c", "d", "e")), api.ErrArity}, {match(u, arm("c", u)), api.ErrName}, {match(u, arm("return", u, "x")), api.ErrName},
		{match(u, arm("C", u, "a", "a")), api.ErrTwice}, {match(u, arm("C", u, "a", "B")), api.ErrName}, {match(u, arm("C", u, "a", "a", "B")), api.ErrTwice}, {match(u, arm("c", u, "a", "a")), api.ErrName},
		{match(u, arm("C", u), arm("D", u), arm("C", u)), api.ErrTwice}, {match(u, arm("C", u), arm("C", u, "X")), api.ErrName}, {match(u, arm("C", u, "x"), arm("D", u, "x")), api.OK},
		{match(u, arm("C", u), arm("C", u, "a", "b", "c", "d", "e")), api.ErrArity}, {match(u, arm("C", u), arm("C", u), arm("", u)), api.ErrTwice},
		{handle(0, "E", u), api.ErrArity}, {handle(1, "E", u), api.ErrArity}, {named("h", "E", u), api.ErrArity}, {match(u), api.OK},
		{handle(0, "E", u, arm("Return", u, "x")), api.ErrArity}, {handle(0, "E", u, arm("op", u, "x", "k")), api.ErrArity}, {handle(0, "E", u, arm("return", u)), api.ErrArity},
		{handle(0, "E", u, arm("return", u, "x", "k")), api.ErrArity}, {handle(0, "E", u, arm("return", u, "X")), api.ErrName}, {handle(0, "E", u, ret(u), arm("op", u, "x")), api.ErrArity},
		{handle(0, "E", u, ret(u), arm("op", u, "x", "y", "z")), api.ErrArity}, {handle(0, "E", u, ret(u), arm("op", u)), api.ErrArity}, {handle(0, "E", u, ret(u), arm("Op", u, "x", "k")), api.ErrName},
		{handle(0, "E", u, ret(u), arm("return", u, "x", "k")), api.ErrName}, {handle(0, "E", u, ret(u), ret(u)), api.ErrArity}, {handle(0, "E", u, ret(u), arm("op", u, "x", "x")), api.ErrTwice},
		{handle(0, "E", u, ret(u), arm("op", u, "x", "K")), api.ErrName}, {handle(0, "E", u, ret(u), arm("op", u, "x", "k"), arm("op", u, "x", "k")), api.ErrTwice},
		{handle(0, "E", u, ret(u), arm("op", u, "x", "k"), arm("op", u, "x", "x")), api.ErrTwice}, {handle(0, "E", u, ret(u), arm("op", u, "x", "k"), arm("op", u, "x", "")), api.ErrName},
		{handle(0, "E", u, ret(u), arm("op", u, "x", "k"), arm("op", u, "x")), api.ErrArity}, {handle(0, "E", u, ret(u), arm("OP", u, "x", "x")), api.ErrName},
		{named("h", "E", u, arm("op", u, "x", "k"), ret(u)), api.ErrArity}, {named("h", "E", u, ret(u), arm("h", u, "h", "k")), api.OK},
	} {
		wantCheck(t, "bound", c.e, c.want)
	}
}

// P2.1, R1: of several errors the first one of the order is returned.
func TestCheckOrder(t *testing.T) {
	// Each change brings its error about, whatever changes of the list come after it.
	changes := []struct {
		want api.Errno
		f    func(e *api.Expr)
	}{
		{api.ErrArg, func(e *api.Expr) { e.N = 7 }},
		{api.ErrName, func(e *api.Expr) { e.S = "x" }},
		{api.ErrName, func(e *api.Expr) { e.T = "x" }},
		{api.ErrArity, func(e *api.Expr) { e.L = append(e.L, unit()) }},
		{api.ErrName, func(e *api.Expr) { e.Names = names("H") }},
		{api.ErrArity, func(e *api.Expr) { e.Arms[0].Op = "back" }},
		{api.ErrName, func(e *api.Expr) { e.Arms[1].Op = "Op" }},
		{api.ErrTwice, func(e *api.Expr) { e.Arms[2].Op = e.Arms[1].Op; e.Arms[2].Names = names("q", "q") }},
		{api.ErrTwice, func(e *api.Expr) { e.Arms[3].Op = e.Arms[2].Op }},
		{api.ErrArg, func(e *api.Expr) { e.L[0] = num(1 << 40) }},
		{api.ErrName, func(e *api.Expr) { e.Arms[0].Body = v("X") }},
		{api.ErrTwice, func(e *api.Expr) { e.Arms[1].Body = rec("a", "a", unit(), unit()) }},
	}
	for i := range changes {
		for j := i; j < len(changes); j++ {
			e := named("h", "E", unit(), ret(unit()), arm("a", unit(), "x", "k"), arm("b", unit(), "x", "k"), arm("c", unit(), "x", "k"))
			changes[j].f(&e)
			changes[i].f(&e)
			wantCheck(t, "order", e, changes[i].want)
		}
	}
	bad, worse := num(1<<40), v("X")
	wantCheck(t, "in order", app(bad, worse), api.ErrArg)
	wantCheck(t, "in order", app(worse, bad), api.ErrName)
	wantCheck(t, "in order", app(app(unit(), worse), bad), api.ErrName)
	wantCheck(t, "a node before its parts", api.Expr{Kind: api.App, L: exprs(bad)}, api.ErrArity)
	wantCheck(t, "parts before arms", match(worse, arm("C", bad)), api.ErrName)
	wantCheck(t, "arms before their bodies", match(unit(), arm("C", bad), arm("C", unit())), api.ErrTwice)
	wantCheck(t, "parts that may not be", api.Expr{Kind: api.Unit, L: exprs(bad)}, api.ErrArity)
	wantCheck(t, "size first", api.Expr{Kind: 77, L: exprs(chain(200))}, api.ErrSize)
	wantCheck(t, "size first", api.Expr{Kind: 77, L: exprs(chain(199))}, api.ErrArg)
	wantCheck(t, "size first", api.Expr{Kind: 77, L: exprs(wide(2999), bad)}, api.ErrSize)
}

// P2.1, R7: the limits of size and depth, those of parts and of bodies, and what Size and Depth return.
func TestSizeAndDepth(t *testing.T) {
	for _, n := range []int{1, 2, 5, 100, 199, 200, 201, 202, 5000} {
		want := map[bool]api.Errno{true: api.OK, false: api.ErrSize}[n <= 200]
		for _, e := range exprs(chain(n), inArms(chain(n-1), n)) {
			wantCheck(t, "depth", e, want)
			if want == api.OK && syntax.Depth(e) != n {
				t.Errorf("Depth = %d; want %d", syntax.Depth(e), n)
			}
		}
	}
	for _, n := range []int{1, 2, 9, 17, 100, 2999, 3000, 3001, 4000} {
		want := map[bool]api.Errno{true: api.OK, false: api.ErrSize}[n <= 3000]
		for _, e := range exprs(wide(n), inArms(wide(n-2), n)) {
			wantCheck(t, "size", e, want)
			if want == api.OK && syntax.Size(e) != n && n > 2 {
				t.Errorf("Size = %d; want %d", syntax.Size(e), n)
			}
		}
	}
	e := match(app(v("f"), fun("x", unit())), arm("C", unit()), arm("D", fun("x", fun("x", fun("x", unit())))))
	if syntax.Size(e) != 10 || syntax.Depth(e) != 5 {
		t.Errorf("size %d, depth %d", syntax.Size(e), syntax.Depth(e))
	}
}

// inArms returns a match with a body in its arm, or a single node.
func inArms(body api.Expr, n int) api.Expr {
	if n < 2 {
		return unit()
	}
	return match(unit(), arm("C", body))
}

// modelNode is the error of a node, written as the chapter has it.
func modelNode(e api.Expr) api.Errno {
	for _, check := range []func(api.Expr) api.Errno{modelNumber, modelStrings, modelArity, modelBound, modelArms} {
		if err := check(e); err != api.OK {
			return err
		}
	}
	return api.OK
}

// is reports whether a node is of one of some kinds.
func is(e api.Expr, kinds ...api.Kind) bool { return slices.Contains(kinds, e.Kind) }

func modelNumber(e api.Expr) api.Errno {
	switch {
	case e.Kind < api.Var || e.Kind > api.Drop,
		is(e, api.Int) && (e.N < -api.MaxInt || e.N > api.MaxInt),
		is(e, api.Bool, api.Handle) && e.N != 0 && e.N != 1,
		!is(e, api.Int, api.Bool, api.Handle) && e.N != 0:
		return api.ErrArg
	}
	return api.OK
}

func modelStrings(e api.Expr) api.Errno {
	ok := e.S == ""
	switch {
	case is(e, api.Var, api.Do, api.At, api.Resume, api.Drop):
		ok = lexer.IsVar(e.S)
	case is(e, api.Con, api.Handle, api.Named, api.Mask):
		ok = lexer.IsUpper(e.S)
	case is(e, api.Prim):
		ok = slices.Contains(strings.Fields("+ - * < =="), e.S)
	}
	if !ok || is(e, api.At) != lexer.IsVar(e.T) || !is(e, api.At) && e.T != "" {
		return api.ErrName
	}
	return api.OK
}

func modelArity(e api.Expr) api.Errno {
	n, l := len(e.Names), len(e.L)
	ok := false
	switch e.Kind {
	case api.Var, api.Int, api.Bool, api.Unit, api.Drop:
		ok = n == 0 && l == 0
	case api.Fun, api.Named:
		ok = n == 1 && l == 1
	case api.App, api.Prim:
		ok = n == 0 && l == 2
	case api.Let:
		ok = n == 1 && l == 2
	case api.Rec:
		ok = n == 2 && l == 2
	case api.If:
		ok = n == 0 && l == 3
	case api.Con:
		ok = n == 0 && l <= 4
	case api.Match, api.Do, api.At, api.Handle, api.Mask, api.Resume:
		ok = n == 0 && l == 1
	case api.Using:
		ok = n >= 1 && n <= 13 && l == 3
	}
	if !ok || len(e.Arms) > 9 || len(e.Arms) > 0 && !is(e, api.Match, api.Handle, api.Named) {
		return api.ErrArity
	}
	return api.OK
}

func modelBound(e api.Expr) api.Errno {
	switch {
	case !is(e, api.Using):
		return modelNames(e.Names, lexer.IsVar)
	case !lexer.IsVar(e.Names[0]):
		return api.ErrName
	}
	return modelNames(e.Names[1:], lexer.IsUpper)
}

func modelArms(e api.Expr) api.Errno {
	handler := is(e, api.Handle, api.Named)
	earlier := map[string]bool{}
	for i, a := range e.Arms {
		switch {
		case !handler && len(a.Names) > 4, handler && i == 0 && (a.Op != "return" || len(a.Names) != 1), handler && i > 0 && len(a.Names) != 2:
			return api.ErrArity
		case !handler && !lexer.IsUpper(a.Op), handler && i > 0 && !lexer.IsVar(a.Op):
			return api.ErrName
		}
		if err := modelNames(a.Names, lexer.IsVar); err != api.OK {
			return err
		}
		if earlier[a.Op] {
			return api.ErrTwice
		}
		earlier[a.Op] = true
	}
	if handler && len(e.Arms) == 0 {
		return api.ErrArity
	}
	return api.OK
}

func modelNames(l []string, class func(string) bool) api.Errno {
	seen := map[string]bool{}
	for _, s := range l {
		if !class(s) {
			return api.ErrName
		}
		if seen[s] {
			return api.ErrTwice
		}
		seen[s] = true
	}
	return api.OK
}

// modelCheck is the error of the nodes of an expression within the limits.
func modelCheck(e api.Expr) api.Errno {
	if err := modelNode(e); err != api.OK {
		return err
	}
	for _, x := range e.L {
		if err := modelCheck(x); err != api.OK {
			return err
		}
	}
	for _, a := range e.Arms {
		if err := modelCheck(a.Body); err != api.OK {
			return err
		}
	}
	return api.OK
}

// P2.1, against the model: random trees, and what is left of them after changes.
func TestCheckModel(t *testing.T) {
	m := newMaker(1)
	count := map[api.Errno]int{}
	for range 20000 {
		e := m.expr(4)
		if got := syntax.Check(e); got != api.OK || modelCheck(e) != api.OK {
			t.Fatalf("Check = %d: %v", got, e)
		}
		for range 1 + m.Intn(4) {
			m.spoil(&e)
			want := modelCheck(e)
			count[want]++
			if got := syntax.Check(e); got != want || syntax.Check(emptied(e)) != want {
				t.Fatalf("Check = %d; want %d: %v", got, want, e)
			}
		}
	}
	if len(count) != 5 {
		t.Errorf("not all errors were met: %v", count)
	}
}

// P2.1: types.
func TestCheckType(t *testing.T) {
	labels := func(n int) (l []api.Label) {
		return slices.Repeat([]api.Label{label("E", 0)}, n)
	}
	for i, c := range []struct {
		x    api.Type
		want api.Errno
	}{
		{tint, api.OK}, {tbool, api.OK}, {tunit, api.OK}, {tvar(0), api.OK}, {tvar(999999999), api.OK}, {tvar(1000000000), api.ErrArg}, {tvar(-1), api.ErrArg},
		{api.Type{Kind: -1}, api.ErrArg}, {api.Type{Kind: 7}, api.ErrArg}, {api.Type{Kind: api.TInt, N: 1}, api.ErrArg}, {api.Type{Kind: api.TParam, S: "a", N: 1}, api.ErrArg}, {api.Type{Kind: api.TData, S: "A", N: 1}, api.ErrArg},
		{param("a"), api.OK}, {param("A"), api.ErrName}, {param(""), api.ErrName}, {param("fun"), api.ErrName}, {param("t0"), api.OK}, {data("A"), api.OK}, {data("a"), api.ErrName}, {data(""), api.ErrName},
		{data("Int"), api.ErrName}, {data("Bool"), api.ErrName}, {data("Unit"), api.ErrName}, {data("Int", tint, tint, tint, tint, tint), api.ErrName}, {data("IO"), api.OK}, {data("Abcdefghijklm"), api.ErrName},
		{api.Type{Kind: api.TInt, S: "Int"}, api.ErrName}, {api.Type{Kind: api.TVar, S: "a"}, api.ErrName}, {api.Type{Kind: api.TFun, S: "a"}, api.ErrName},
		{data("A", tint, tint, tint, tint), api.OK}, {data("A", tint, tint, tint, tint, tint), api.ErrArity}, {api.Type{Kind: api.TFun}, api.ErrArity}, {api.Type{Kind: api.TFun, L: []api.Type{tint}}, api.ErrArity}, {api.Type{Kind: api.TFun, L: []api.Type{tint, tint, tint}}, api.ErrArity},
		{api.Type{Kind: api.TInt, L: []api.Type{tint}}, api.ErrArity}, {api.Type{Kind: api.TVar, L: []api.Type{tint}}, api.ErrArity}, {api.Type{Kind: api.TParam, S: "a", L: []api.Type{tint}}, api.ErrArity},
		{api.Type{Kind: api.TInt, Row: row(-1)}, api.ErrArg}, {api.Type{Kind: api.TData, S: "A", Row: row(0, label("E", 0))}, api.ErrArg}, {api.Type{Kind: api.TVar, Row: row(1)}, api.ErrArg}, {api.Type{Kind: api.TInt, Row: api.Row{Labels: []api.Label{}}}, api.OK},
		{api.Type{Kind: api.TInt, L: []api.Type{tint}, Row: row(-1)}, api.ErrArity},
		{arrow(tint, row(-1), tint), api.OK}, {arrow(tint, row(0), tint), api.OK}, {arrow(tint, row(999999999), tint), api.OK}, {arrow(tint, row(1000000000), tint), api.ErrArg}, {arrow(tint, row(-2), tint), api.ErrArg},
		{arrow(tint, row(-2, label("e", 0)), tint), api.ErrName}, {arrow(tint, row(-1, label("", 0)), tint), api.ErrName}, {arrow(tint, row(-1, label("E", -1)), tint), api.ErrArg}, {arrow(tint, row(-1, label("E", 999999999)), tint), api.OK},
		{arrow(tint, row(-1, label("E", 1000000000)), tint), api.ErrArg}, {arrow(tint, row(-1, label("E", -1), label("e", 0)), tint), api.ErrArg}, {arrow(tint, row(-1, label("e", -1)), tint), api.ErrName}, {arrow(tint, row(-1, label("E", 1), label("E", 1)), tint), api.OK},
		{arrow(tint, row(-1, label("Int", 0)), tint), api.OK}, {arrow(tint, row(-2), tvar(-1)), api.ErrArg}, {arrow(param("A"), row(-1), tvar(-1)), api.ErrName}, {arrow(tvar(-1), row(-1), param("A")), api.ErrArg},
		{arrow(tint, row(-1, labels(24)...), tint), api.OK}, {arrow(tint, row(-1, labels(25)...), tint), api.ErrSize}, {arrow(tvar(-1), row(-1), arrow(tint, row(-1, labels(25)...), tint)), api.ErrSize},
		{api.Type{Kind: api.TInt, Row: row(0, labels(25)...)}, api.ErrSize}, {api.Type{Kind: 9, L: []api.Type{typeChain(200)}}, api.ErrSize}, {api.Type{Kind: 9, L: []api.Type{typeChain(199)}}, api.ErrArg},
		{typeChain(200), api.OK}, {typeChain(201), api.ErrSize}, {wideType(3000), api.OK}, {wideType(3001), api.ErrSize}, {typeChain(9000), api.ErrSize},
	} {
		if got := syntax.CheckType(c.x); got != c.want {
			t.Errorf("%d: CheckType = %d; want %d: %v", i, got, c.want, c.x)
		}
		if s, got := syntax.ShowType(c.x); got != c.want || (s == "") != (c.want != api.OK) {
			t.Errorf("%d: ShowType = %q, %d; want %d", i, s, got, c.want)
		}
	}
}

// modelTypeNode is the error of a type's node.
func modelTypeNode(t api.Type) api.Errno {
	k := t.Kind
	switch {
	case k < api.TVar || k > api.TData || t.N < 0 || t.N > api.MaxInt || k != api.TVar && t.N != 0:
		return api.ErrArg
	case k == api.TParam && !lexer.IsVar(t.S), k == api.TData && (!lexer.IsUpper(t.S) || t.S == "Int" || t.S == "Bool" || t.S == "Unit"), k != api.TParam && k != api.TData && t.S != "":
		return api.ErrName
	case k == api.TFun && len(t.L) != 2, k == api.TData && len(t.L) > 4, k != api.TFun && k != api.TData && len(t.L) > 0:
		return api.ErrArity
	case k != api.TFun && (len(t.Row.Labels) > 0 || t.Row.Tail != 0):
		return api.ErrArg
	}
	for _, l := range t.Row.Labels {
		if !lexer.IsUpper(l.S) {
			return api.ErrName
		}
		if l.N < 0 || l.N > api.MaxInt {
			return api.ErrArg
		}
	}
	if t.Row.Tail < -1 || t.Row.Tail > api.MaxInt {
		return api.ErrArg
	}
	return api.OK
}

// typeNodes lists the nodes of a type.
func typeNodes(t api.Type) []api.Type {
	l := []api.Type{t}
	for _, x := range t.L {
		l = append(l, typeNodes(x)...)
	}
	return l
}

// modelCheckType is the error of a type within the limits, or of a declared type.
func modelCheckType(t api.Type, declared bool) api.Errno {
	l := typeNodes(t)
	for _, x := range l {
		if len(x.Row.Labels) > 24 {
			return api.ErrSize
		}
	}
	for _, x := range l {
		if e := modelTypeNode(x); e != api.OK {
			return e
		}
	}
	for _, x := range l {
		scoped := slices.ContainsFunc(x.Row.Labels, func(l api.Label) bool { return l.N > 0 })
		if declared && (x.Kind == api.TVar || scoped || x.Kind == api.TFun && x.Row.Tail >= 0) {
			return api.ErrArg
		}
	}
	return api.OK
}

// P2.1, against the model: types, as they are and in declarations.
func TestCheckTypeModel(t *testing.T) {
	m := newMaker(2)
	count := map[api.Errno]int{}
	for range 8000 {
		x := m.typ(4, m.Intn(2) == 0)
		for range 1 + m.Intn(4) {
			want := modelCheckType(x, false)
			count[want]++
			if got := syntax.CheckType(x); got != want || syntax.CheckType(emptied(x)) != want {
				t.Fatalf("CheckType = %d; want %d: %v", got, want, x)
			}
			want = modelCheckType(x, true)
			inData := api.Program{Data: []api.Data{{Name: "D", Cons: []api.Cons{{Name: "C", Args: []api.Type{tint, x}}}}}, Main: unit()}
			inArg := api.Program{Effects: []api.Effect{{Name: "E", Ops: []api.Op{{Name: "o", Arg: x, Res: tint}}}}, Main: unit()}
			inRes := api.Program{Effects: []api.Effect{{Name: "E", Ops: []api.Op{{Name: "o", Arg: tint, Res: x}}}}, Main: unit()}
			for _, p := range []api.Program{inData, inArg, inRes} {
				if got := syntax.CheckProgram(p); got != want {
					t.Fatalf("CheckProgram = %d; want %d: %v", got, want, p)
				}
			}
			m.spoilType(&x)
		}
	}
	if len(count) != 5 {
		t.Errorf("not all errors were met: %v", count)
	}
}

// modelProgram is the error of a program within the limits of sizes.
func modelProgram(p api.Program) api.Errno {
	for _, d := range p.Data {
		if len(d.Params) > 4 || len(d.Cons) > 8 {
			return api.ErrSize
		}
		if !lexer.IsUpper(d.Name) {
			return api.ErrName
		}
		if e := modelNames(d.Params, lexer.IsVar); e != api.OK {
			return e
		}
		for _, c := range d.Cons {
			if len(c.Args) > 4 {
				return api.ErrSize
			}
			if !lexer.IsUpper(c.Name) {
				return api.ErrName
			}
			for _, x := range c.Args {
				if e := modelCheckType(x, true); e != api.OK {
					return e
				}
			}
		}
	}
	for _, f := range p.Effects {
		if len(f.Ops) > 8 {
			return api.ErrSize
		}
		if !lexer.IsUpper(f.Name) {
			return api.ErrName
		}
		for _, o := range f.Ops {
			if !lexer.IsVar(o.Name) {
				return api.ErrName
			}
			for _, x := range []api.Type{o.Arg, o.Res} {
				if e := modelCheckType(x, true); e != api.OK {
					return e
				}
			}
		}
	}
	for _, d := range p.Defs {
		if !lexer.IsVar(d.Name) {
			return api.ErrName
		}
		if e := modelCheck(d.Body); e != api.OK {
			return e
		}
	}
	return modelCheck(p.Main)
}

// P2.1, against the model: programs, and their nested Lets.
func TestCheckProgramModel(t *testing.T) {
	m := newMaker(3)
	count := map[api.Errno]int{}
	for range 2000 {
		p := copied(m.program())
		for range 1 + m.Intn(4) {
			want := modelProgram(p)
			count[want]++
			if got := syntax.CheckProgram(p); got != want || syntax.CheckProgram(emptied(p)) != want {
				t.Fatalf("CheckProgram = %d; want %d: %v", got, want, p)
			}
			s, e := syntax.Print(p)
			if e != want || (s == "") != (want != api.OK) {
				t.Fatalf("Print = %q, %d; want %d: %v", s, e, want, p)
			}
			x, e := syntax.Whole(p)
			if e != want || want != api.OK && !reflect.DeepEqual(x, api.Expr{}) {
				t.Fatalf("Whole = %v, %d; want %d: %v", x, e, want, p)
			}
			p = copied(p)
			m.spoilProgram(&p)
		}
	}
	if len(count) != 6 {
		t.Errorf("not all errors were met: %v", count)
	}
}

// full returns a program with as much of everything as there may be.
func full() api.Program {
	var p api.Program
	for i := range api.MaxDecls {
		d := api.Data{Name: "D" + lexer.Digits(i), Params: names("a", "b", "c", "d")}
		f := api.Effect{Name: "E" + lexer.Digits(i)}
		for j := range api.MaxCases {
			d.Cons = append(d.Cons, api.Cons{Name: "C" + lexer.Digits(8*i+j), Args: []api.Type{param("a"), tint, tbool, tunit}})
			f.Ops = append(f.Ops, api.Op{Name: "o" + lexer.Digits(8*i+j), Arg: tint, Res: tint, Once: j == 1})
		}
		p.Data = append(p.Data, d)
		p.Effects = append(p.Effects, f)
	}
	for i := range api.MaxDefs {
		p.Defs = append(p.Defs, api.Def{Name: "d" + lexer.Digits(i), Body: num(i)})
	}
	p.Main = unit()
	return p
}

// P2.1, R1, R7: the limits of programs, and the order of their errors.
func TestCheckProgramLimits(t *testing.T) {
	// Each change brings its error about, whatever changes of the list come after it.
	changes := []struct {
		want api.Errno
		f    func(p *api.Program)
	}{
		{api.ErrSize, func(p *api.Program) { p.Effects = append(p.Effects, api.Effect{}) }},
		{api.ErrSize, func(p *api.Program) { p.Data = append(p.Data, api.Data{}) }},
		{api.ErrSize, func(p *api.Program) { p.Defs = append(p.Defs, api.Def{}) }},
		{api.ErrSize, func(p *api.Program) { p.Data[0].Params = append(p.Data[0].Params, "a", "A") }},
		{api.ErrSize, func(p *api.Program) { p.Data[0].Cons = append(p.Data[0].Cons, api.Cons{}) }},
		{api.ErrName, func(p *api.Program) { p.Data[0].Name = "d" }},
		{api.ErrTwice, func(p *api.Program) { p.Data[0].Params[1], p.Data[0].Params[2] = "a", "B" }},
		{api.ErrName, func(p *api.Program) { p.Data[0].Params[3] = "" }},
		{api.ErrSize, func(p *api.Program) { p.Data[0].Cons[0].Args = append(p.Data[0].Cons[0].Args, tvar(-1)) }},
		{api.ErrName, func(p *api.Program) { p.Data[0].Cons[0].Name = "c" }},
		{api.ErrName, func(p *api.Program) { p.Data[0].Cons[0].Args[0] = arrow(tint, row(0), data("Int")) }},
		{api.ErrArg, func(p *api.Program) { p.Data[0].Cons[0].Args[1] = tvar(0) }},
		{api.ErrName, func(p *api.Program) { p.Data[0].Cons[1].Name = "" }},
		{api.ErrName, func(p *api.Program) { p.Data[1].Name = "" }},
		{api.ErrSize, func(p *api.Program) { p.Effects[0].Ops = append(p.Effects[0].Ops, api.Op{}) }},
		{api.ErrName, func(p *api.Program) { p.Effects[0].Name = "" }},
		{api.ErrName, func(p *api.Program) { p.Effects[0].Ops[0].Name = "O" }},
		{api.ErrArg, func(p *api.Program) { p.Effects[0].Ops[0].Arg = arrow(tint, row(0), tint) }},
		{api.ErrArg, func(p *api.Program) { p.Effects[0].Ops[0].Res = arrow(tint, row(-1, label("E", 2)), tint) }},
		{api.ErrName, func(p *api.Program) { p.Effects[0].Ops[1].Name = "" }},
		{api.ErrName, func(p *api.Program) { p.Effects[1].Name = "e" }},
		{api.ErrSize, func(p *api.Program) { p.Main = chain(141) }},
		{api.ErrName, func(p *api.Program) { p.Defs[0].Name = "D" }},
		{api.ErrArg, func(p *api.Program) { p.Defs[0].Body = num(1 << 40) }},
		{api.ErrName, func(p *api.Program) { p.Defs[1].Name = "" }},
		{api.ErrArity, func(p *api.Program) { p.Main = handle(0, "E", unit()) }},
	}
	if p := full(); syntax.CheckProgram(p) != api.OK {
		t.Errorf("CheckProgram = %d", syntax.CheckProgram(p))
	}
	for i := range changes {
		for j := i; j < len(changes); j++ {
			p := full()
			changes[j].f(&p)
			changes[i].f(&p)
			if got := syntax.CheckProgram(p); got != changes[i].want {
				t.Errorf("changes %d and %d: CheckProgram = %d; want %d", i, j, got, changes[i].want)
			}
		}
	}
}

// P2.1: the limits of the nested Let.
func TestWholeLimits(t *testing.T) {
	for _, c := range []struct {
		p    api.Program
		want api.Errno
	}{
		{api.Program{Main: chain(200)}, api.OK},
		{api.Program{Main: chain(201)}, api.ErrSize},
		{api.Program{Defs: []api.Def{{Name: "a", Body: chain(199)}}, Main: chain(199)}, api.OK},
		{api.Program{Defs: []api.Def{{Name: "a", Body: chain(200)}}, Main: unit()}, api.ErrSize},
		{api.Program{Defs: []api.Def{{Name: "A", Body: unit()}}, Main: chain(200)}, api.ErrSize},
		{api.Program{Defs: []api.Def{{Name: "a", Body: chain(199)}, {Name: "a", Body: chain(198)}}, Main: chain(198)}, api.OK},
		{api.Program{Defs: []api.Def{{Name: "a", Body: unit()}, {Name: "b", Body: chain(199)}}, Main: unit()}, api.ErrSize},
		{api.Program{Defs: []api.Def{{Name: "a", Body: unit()}, {Name: "b", Body: unit()}}, Main: chain(199)}, api.ErrSize},
		{api.Program{Defs: []api.Def{{Name: "a", Body: wide(2000)}, {Name: "b", Body: wide(500)}}, Main: wide(498)}, api.OK},
		{api.Program{Defs: []api.Def{{Name: "a", Body: wide(2000)}, {Name: "b", Body: wide(500)}}, Main: wide(499)}, api.ErrSize},
	} {
		if got := syntax.CheckProgram(c.p); got != c.want {
			t.Errorf("CheckProgram = %d; want %d", got, c.want)
		}
		if e, got := syntax.Whole(c.p); got != c.want || syntax.Check(e) != api.OK && got == api.OK {
			t.Errorf("Whole: %d; want %d", got, c.want)
		}
	}
}

// P2.1: Same and SameType see each field, in trees that are well formed or not, and do not tell nil from empty.
func TestSame(t *testing.T) {
	m := newMaker(4)
	for range 20000 {
		a := m.expr(4)
		b := copied(a)
		if !syntax.Same(a, b) || !syntax.Same(a, emptied(a)) || !syntax.Same(emptied(a), a) {
			t.Fatalf("not the same as itself: %v", a)
		}
		for range 1 + m.Intn(3) {
			m.spoil(&b)
		}
		want := reflect.DeepEqual(emptied(a), emptied(b))
		if syntax.Same(a, b) != want || syntax.Same(b, a) != want || !syntax.Same(b, copied(b)) {
			t.Fatalf("Same is not %t: %v, %v", want, a, b)
		}
		x := m.typ(3, false)
		y := copied(x)
		if !syntax.SameType(x, y) || !syntax.SameType(x, emptied(x)) || !syntax.SameType(emptied(x), x) {
			t.Fatalf("not the same as itself: %v", x)
		}
		m.spoilType(&y)
		want = reflect.DeepEqual(emptied(x), emptied(y))
		if syntax.SameType(x, y) != want || syntax.SameType(y, x) != want || !syntax.SameType(y, copied(y)) {
			t.Fatalf("SameType is not %t: %v, %v", want, x, y)
		}
	}
	if !syntax.Same(api.Expr{}, api.Expr{Kind: api.Var}) || syntax.Same(v("x"), drop("x")) || !syntax.SameType(api.Type{}, tvar(0)) || syntax.SameType(tint, tbool) {
		t.Errorf("Same or SameType of simple trees")
	}
}

// P2.1, P2.7: Whole is the nested Let.
func TestWhole(t *testing.T) {
	p := api.Program{Defs: []api.Def{{Name: "a", Body: num(1)}, {Name: "b", Body: v("a")}, {Name: "a", Body: fun("x", v("b"))}}, Main: app(v("a"), v("b"))}
	want := let("a", num(1), let("b", v("a"), let("a", fun("x", v("b")), app(v("a"), v("b")))))
	if e, err := syntax.Whole(p); err != api.OK || !syntax.Same(e, want) {
		t.Errorf("Whole = %v, %d", e, err)
	}
	p.Defs = nil
	if e, err := syntax.Whole(p); err != api.OK || !syntax.Same(e, p.Main) {
		t.Errorf("Whole = %v, %d", e, err)
	}
}
