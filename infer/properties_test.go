package infer_test

import (
	"os"
	"runtime/debug"
	"slices"
	"testing"

	"reprise/api"
	"reprise/decl"
	"reprise/infer"
	"reprise/rows"
	"reprise/scope"
	"reprise/syntax"
)

// TestMain lets the memory grow further before it is swept: the tests make many small trees, and keep none.
func TestMain(m *testing.M) {
	debug.SetGCPercent(800)
	os.Exit(m.Run())
}

// counted checks that each of some errors came up so often.
func counted(t *testing.T, found map[api.Errno]int, least int, l ...api.Errno) {
	t.Helper()
	for _, e := range l {
		if found[e] < least {
			t.Errorf("error %d came up %d times: %v", e, found[e], found)
		}
	}
}

// P6.1, P0.6, R4: random programs have the types that the model finds; arguments stay as they are, results are new memory, and the same each time.
func TestProgramsAgainstModel(t *testing.T) {
	t.Parallel()
	found := map[api.Errno]int{}
	for i := range 1500 {
		m := newMaker(int64(i), []int{0, 0, 20, 60}[i%4])
		p := m.program()
		before := copied(p, false)
		defs, main, e := infer.Infer(p)
		wantDefs, wantMain, want := []api.Type(nil), api.Type{}, decl.Check(p)
		if closed, _ := scope.Closed(whole(p)); want == api.OK && !closed {
			want = api.ErrNone
		}
		if want == api.OK {
			wantDefs, wantMain, want = modelInfer(p)
		}
		if e != want || !same(defs, wantDefs) || !same(main, wantMain) || infer.Accepts(p) != (e == api.OK) {
			t.Fatalf("%s: %s, %s, %d; want %s, %s, %d", printed(p), shownTypes(defs...), shownType(main), e, shownTypes(wantDefs...), shownType(wantMain), want)
		}
		found[e]++
		again, mainAgain, _ := infer.Infer(copied(p, true))
		own, twice := memory(defs, main)
		others, _ := memory(p, again, mainAgain)
		for at := range others {
			twice = twice || own[at]
		}
		if twice || !same(p, before) || !same(again, defs) || !same(mainAgain, main) {
			t.Fatalf("%s: memory is shared or changed, or another call has another result", printed(p))
		}
	}
	counted(t, found, 300, api.OK, api.ErrType)
}

// P6.2: so have random expressions; and the types that they have are the instances.
func TestExprsAgainstModel(t *testing.T) {
	t.Parallel()
	found := map[api.Errno]int{}
	has := map[bool]int{}
	for i := range 6000 {
		m := newMaker(int64(i), []int{0, 20, 60, 200}[i%4])
		x := m.typed(m.goal(2), 2+m.Intn(3), nil)
		before := copied(x, false)
		got, e := infer.Expr(declared, x)
		want, f := api.Type{}, api.ErrNone
		if closed, _ := scope.Closed(x); closed {
			want, f = modelExpr(declared, x)
		}
		if e != f || !same(got, want) || !same(x, before) {
			t.Fatalf("%s: %s, %d; want %s, %d", shown(x), shownType(got), e, shownType(want), f)
		}
		found[e]++
		special := fun(tunit, m.row(), m.goal(2))
		if m.Intn(2) == 0 && e == api.OK {
			special = replaced(got, func(int) api.Type { return m.goal(1) }, func(int) api.Row { return m.row() })
		}
		is, g := infer.Has(declared, x, special)
		_, wantIs, _ := rows.Instance(got, special)
		if e == api.OK && (g != api.OK || is != wantIs) || e != api.OK && is {
			t.Fatalf("%s : %s: %t, %d", shown(x), shownType(special), is, g)
		}
		has[is]++
	}
	counted(t, found, 300, api.OK, api.ErrType)
	if has[true] < 500 || has[false] < 500 {
		t.Error(has)
	}
}

// row returns a row, most often an open one.
func (m maker) row() api.Row {
	r := open(m.Intn(4) - 1)
	for range m.Intn(3) {
		r.Labels = append(r.Labels, api.Label{S: m.of("State", "Ask", "IO")})
	}
	return r
}

// P6.2: scopes are found to be mentioned where the model finds them, in expressions that are full of named handlers.
func TestScopesAgainstModel(t *testing.T) {
	t.Parallel()
	found := map[api.Errno]int{}
	for i := range 6000 {
		m := newMaker(int64(i), 30)
		x := m.scoped(5, nil)
		got, e := infer.Expr(declared, x)
		want, f := modelExpr(declared, x)
		if e != f || !same(got, want) {
			t.Fatalf("%s: %s, %d; want %s, %d", shown(x), shownType(got), e, shownType(want), f)
		}
		found[e]++
	}
	counted(t, found, 500, api.OK, api.ErrType)
}

// scoped returns an expression of variables and handler names; most of them have integers, or functions on them.
func (m maker) scoped(depth int, env []name) api.Expr {
	names := visibleNames(env)
	vars := slices.DeleteFunc(slices.Clone(names), func(n name) bool { return n.kind == ofHandler })
	hs := slices.DeleteFunc(slices.Clone(names), func(n name) bool { return n.kind != ofHandler })
	if depth == 0 {
		if len(vars) == 0 {
			return num(1)
		}
		return v(vars[m.Intn(len(vars))].text)
	}
	x, part := m.of("x", "y", "f"), func(l ...name) api.Expr { return m.scoped(depth-1, bind(env, l...)) }
	switch n := m.Intn(10); {
	case n < 2:
		return lam(x, part(name{text: x}))
	case n < 4:
		return app(part(), part())
	case n == 4:
		return let(x, part(), part(name{text: x}))
	case n == 5:
		return let(x, lam("z", part(name{text: "z"})), part(name{text: x}))
	case n < 8 && len(hs) > 0:
		return api.Expr{Kind: api.At, S: hs[m.Intn(len(hs))].text, T: "ask", L: []api.Expr{part()}}
	case n < 9:
		h := m.of("h", "g")
		clause := []api.Expr{v("n"), app(v("k"), v("n")), part()}[m.Intn(3)]
		return api.Expr{Kind: api.Named, Names: []string{h}, S: "Ask", L: []api.Expr{part(name{text: h, kind: ofHandler})}, Arms: []api.Arm{arm("return", part(name{text: x}), x), arm("ask", clause, "n", "k")}}
	}
	return m.scoped(0, env)
}

// P6.3: accepted programs never end with Unhandled or Stuck, and what they end with is of the type of Main.
func TestSoundness(t *testing.T) {
	t.Parallel()
	ends, values := map[api.End]int{}, 0
	for i := range 6000 {
		m := newMaker(int64(i), []int{0, 20}[i%2])
		p := m.program()
		_, main, e := infer.Infer(p)
		if e != api.OK {
			continue
		}
		end, value, _ := run(p, whole(p), []int{5, 7}[:m.Intn(3)], 300)
		if end == api.Unhandled || end == api.Stuck {
			t.Fatalf("%s: ends with %d, at %s", printed(p), end, shown(value))
		}
		ends[end]++
		fits, f := decl.Fits(p, main, value)
		if types, tails, _ := rows.Vars(main); end == api.Done && len(types)+len(tails) == 0 && f == api.OK && !hasFunctions(main) {
			if !fits {
				t.Fatalf("%s: %s is not of the type %s", printed(p), shown(value), shownType(main))
			}
			values++
		}
	}
	if ends[api.Done] < 1000 || ends[api.OutOfFuel]+ends[api.NoInput] < 10 || values < 750 {
		t.Error(ends, values)
	}
}

// hasFunctions reports whether a function type occurs in a type without Fn.
func hasFunctions(x api.Type) bool {
	return x.Kind == api.TFun || x.S == "Fn" || slices.ContainsFunc(x.L, hasFunctions)
}

// P6.3: programs that are stuck or unhandled, all of which are refused, do come up.
func TestUnsoundIsRefused(t *testing.T) {
	t.Parallel()
	for _, c := range []struct {
		text string
		end  api.End
	}{
		{"1 2", api.Stuck}, {"1 + true", api.Stuck}, {"if 1 then 2 else 3", api.Stuck}, {"match 1 { Nil -> 1; Cons x l -> 2 }", api.Stuck}, {"do print true", api.Stuck}, {"(fun f -> f f) true", api.Stuck}, {"do get ()", api.Unhandled}, {"mask Ask (do get ())", api.Unhandled}, {"handle Ask mask Ask (do ask 1) { return x -> x; ask n k -> n }", api.Unhandled},
		{"named h Ask (fun x -> h.ask x) { return f -> f 1; ask n k -> n }", api.Unhandled}, {"(named h Ask (fun x -> h.ask x) { return f -> f; ask n k -> fun x -> x }) 1", api.Unhandled}, {"named h Ask h.get () { return x -> x; ask n k -> n }", api.Stuck}, {"shallow Ask do ask 1 + do ask 2 { return x -> x; ask n k -> k n }", api.Unhandled}, {"handle Tick do tick () { return x -> x; tick u k -> k 1; halt n k -> n }", api.Stuck}, {"handle Ask do ask 1 { return x -> x; ask n k -> resume k 1 }", api.Stuck},
		{"handle Ask using x [] = 1 close fun y -> () in do ask 1 { return x -> x; ask n k -> n }", api.Done},
	} {
		p := parsed(t, "main "+c.text)
		if end, _, _ := run(p, p.Main, nil, 100); end != c.end || infer.Accepts(p) {
			t.Errorf("%s: ends with %d; accepted: %t", c.text, end, infer.Accepts(p))
		}
	}
}

// P6.4: an expression whose row does not mention IO has no events.
func TestPurity(t *testing.T) {
	t.Parallel()
	pure, impure := 0, 0
	for i := range 12000 {
		m := newMaker(int64(i), 10)
		x := m.typed(m.goal(1), 2+m.Intn(3), nil)
		u, e := infer.Expr(declared, x)
		if e != api.OK {
			continue
		}
		_, _, events := run(declared, x, []int{1, 2, 3}, 300)
		io := slices.ContainsFunc(u.Row.Labels, func(l api.Label) bool { return l.S == api.IO })
		switch {
		case events > 0 && !io:
			t.Fatalf("%s: %s has %d events", shown(x), shownType(u), events)
		case events > 0:
			impure++
		case !io:
			pure++
		}
	}
	if pure < 3000 || impure < 200 {
		t.Error(pure, impure)
	}
}

// P6.5, P6.6: renaming, printing and parsing change no type.
func TestNamesAndTexts(t *testing.T) {
	t.Parallel()
	found := map[api.Errno]int{}
	for i := range 1000 {
		m := newMaker(int64(i), []int{0, 40}[i%2])
		p := m.program()
		defs, main, e := infer.Infer(p)
		found[e]++
		canon, unique := copied(p, false), copied(p, false)
		for j := range p.Defs {
			canon.Defs[j].Body, _ = scope.Canon(p.Defs[j].Body)
			unique.Defs[j].Body, _ = scope.Unique(p.Defs[j].Body)
		}
		canon.Main, _ = scope.Canon(p.Main)
		unique.Main, _ = scope.Unique(p.Main)
		text, _ := syntax.Print(p)
		read, _, _ := syntax.Parse(text)
		for _, q := range []api.Program{canon, unique, read} {
			defs2, main2, f := infer.Infer(q)
			if f != e || !same(defs2, defs) || !same(main2, main) {
				t.Fatalf("%s: %s, %s, %d; as %s: %s, %s, %d", printed(p), shownTypes(defs...), shownType(main), e, printed(q), shownTypes(defs2...), shownType(main2), f)
			}
		}
		x := m.typed(m.goal(2), 4, nil)
		u, e := infer.Expr(declared, x)
		found[e]++
		c, _ := scope.Canon(x)
		again, _, _ := syntax.ParseExpr(shown(x))
		for _, y := range []api.Expr{c, again} {
			if w, f := infer.Expr(declared, y); f != e || !same(w, u) {
				t.Fatalf("%s: %s, %d; as %s: %s, %d", shown(x), shownType(u), e, shown(y), shownType(w), f)
			}
		}
	}
	counted(t, found, 200, api.OK, api.ErrType)
}

// P6.7: a Let of a value has the type that its body has with the value in place of the variable.
func TestPolymorphism(t *testing.T) {
	t.Parallel()
	found := map[api.Errno]int{}
	for i := range 6000 {
		m := newMaker(int64(i), []int{0, 20, 60}[i%3])
		value := m.typed(m.goal(2), 3, nil)
		use := name{text: "x", t: m.goal(1)}
		if i%2 == 0 {
			value = must(m.of("fun x -> x", "fun f -> (fun y -> f) 1", "fun x -> if true then x else x", "fun x -> let z = do ask 1 in x", "fun x -> using y [] = 1 close fun z -> () in x"))
			use.kind = ofAny
		}
		if !modelIsValue(value) {
			continue
		}
		b := m.typed(m.goal(1), 4, []name{use})
		replaced, e := scope.Subst(b, "x", value)
		if e != api.OK {
			continue
		}
		u, e := infer.Expr(declared, let("x", value, b))
		_, f := infer.Expr(declared, value)
		w, g := infer.Expr(declared, replaced)
		if (e == api.OK) != (f == api.OK && g == api.OK) || e == api.OK && !same(u, w) {
			t.Fatalf("let x = %s in %s: %s, %d; %d; %s, %d", shown(value), shown(b), shownType(u), e, f, shownType(w), g)
		}
		found[e]++
		if n, _ := scope.Uses(b, "x"); n > 0 {
			// Within a function whose parameter the value has, too.
			open, e1 := infer.Expr(declared, lam("z", let("x", con("Pair", v("z"), value), b)))
			same1, e2 := infer.Expr(declared, lam("z", substituted(b, "x", con("Pair", v("z"), value))))
			if captures(b, "z") {
				continue
			}
			if e1 != e2 || !same(open, same1) {
				t.Fatalf("fun z -> let x = Pair[z, %s] in %s: %s, %d; %s, %d", shown(value), shown(b), shownType(open), e1, shownType(same1), e2)
			}
		}
	}
	counted(t, found, 500, api.OK, api.ErrType)
}

// captures reports whether a name is bound within an expression.
func captures(x api.Expr, name string) bool {
	l, _ := scope.Names(x)
	return slices.Contains(l, name)
}

// P6.8: an App of closed expressions has the type that the solution of their equation says.
func TestApplication(t *testing.T) {
	t.Parallel()
	found := map[api.Errno]int{}
	for i := range 6000 {
		m := newMaker(int64(i), []int{0, 50}[i%2])
		a, b := m.goal(1), m.goal(1)
		f, x := m.typed(fun(a, closed(), b), 3, nil), m.typed(a, 3, nil)
		if i%3 == 0 {
			f = must(m.of("fun x -> x", "fun f -> fun x -> f (f x)", "fun x -> Pair[x, x]", "fun f -> f 1", "fun f -> do call f", "mask Ask (fun x -> x)", "fun f -> using x [] = f () close fun u -> () in x"))
		}
		s, e1 := infer.Expr(declared, f)
		u, e2 := infer.Expr(declared, x)
		got, e := infer.Expr(declared, app(f, x))
		if e1 != api.OK || e2 != api.OK {
			if e == api.OK {
				t.Fatalf("%s has a part without a type", shown(app(f, x)))
			}
			continue
		}
		up := func(n int) int { return n + 1000 }
		u = replaced(u, func(n int) api.Type { return tvar(up(n)) }, func(n int) api.Row { return open(up(n)) })
		result := fun(tunit, s.Row, tvar(2000))
		solution, want := rows.Solve([]api.Pair{{A: s.L[1], B: fun(u.L[1], s.Row, tvar(2000))}, {A: rowType(s.Row), B: rowType(u.Row)}})
		found[want]++
		if want == api.OK {
			result, _ = rows.Apply(solution, result)
			result, _ = rows.Canon(result)
		} else {
			result = api.Type{}
		}
		if e != want || !same(got, result) {
			t.Fatalf("%s: %s, %d; want %s, %d", shown(app(f, x)), shownType(got), e, shownType(result), want)
		}
	}
	counted(t, found, 500, api.OK, api.ErrType)
}

// P6.9: a handler of a new effect changes no type of an expression whose row is open, and neither does one of IO around a mask of IO, of any.
func TestHandlersThatChangeNothing(t *testing.T) {
	t.Parallel()
	opened, shut := 0, 0
	p := copied(declared, false)
	p.Effects = append(p.Effects, api.Effect{Name: "New", Ops: []api.Op{{Name: "first", Arg: tint, Res: tbool}, {Name: "second", Arg: tbool, Res: tint, Once: true}}})
	for i := range 2000 {
		m := newMaker(int64(i), []int{0, 20}[i%2])
		x := m.typed(m.goal(2), 4, nil)
		if m.Intn(3) == 0 {
			x = api.Expr{Kind: api.Using, Names: []string{"x", "Ask"}, L: []api.Expr{num(1), lam("x", api.Expr{Kind: api.Unit}), x}}
		}
		want, e := infer.Expr(p, x)
		if without, f := infer.Expr(declared, x); f != e || !same(without, want) {
			t.Fatalf("%s: %s, %d; without an effect more %s, %d", shown(x), shownType(want), e, shownType(without), f)
		}
		io := must("handle IO mask IO () { return x -> x; print n k -> resume k (); read u k -> resume k 1 }")
		io.L[0].L[0] = x
		if got, f := infer.Expr(p, io); f != e || !same(got, want) {
			t.Fatalf("%s: %s, %d; want %s, %d", shown(io), shownType(got), f, shownType(want), e)
		}
		h := must("handle New () { return x -> x; first n k -> k true; second b k -> resume k 1 }")
		h.L[0] = x
		got, f := infer.Expr(p, h)
		switch {
		case e == api.OK && want.Row.Tail < 0:
			shut++
			if f != api.ErrType {
				t.Fatalf("%s: %s, %d", shown(h), shownType(got), f)
			}
		case f != e || !same(got, want):
			t.Fatalf("%s: %s, %d; want %s, %d", shown(h), shownType(got), f, shownType(want), e)
		case e == api.OK:
			opened++
		}
	}
	if opened < 500 || shut < 50 {
		t.Error(opened, shut)
	}
}

// P0.6, R8: anything can be asked for.
func TestAnything(t *testing.T) {
	t.Parallel()
	m := newMaker(1, 100)
	for range 2000 {
		p := copied(m.program(), false)
		for range 1 + m.Intn(3) {
			m.spoil(&p.Main)
		}
		if m.Intn(4) == 0 && len(p.Defs) > 0 {
			m.spoil(&p.Defs[0].Body)
		}
		want := decl.Check(p)
		defs, main, e := infer.Infer(p)
		if want != api.OK && e != want || e != api.OK && (len(defs) > 0 || !same(main, api.Type{})) || infer.Accepts(p) != (e == api.OK) {
			t.Fatalf("%v: %d; want %d", p, e, want)
		}
		want = decl.CheckExpr(p, p.Main)
		x, e := infer.Expr(p, p.Main)
		if want != api.OK && e != want || e != api.OK && !same(x, api.Type{}) {
			t.Fatalf("%v: %d; want %d", p, e, want)
		}
		if is, f := infer.Has(p, p.Main, x); is != (e == api.OK) || f != e && e != api.ErrType {
			t.Fatalf("%v: %t, %d", p, is, f)
		}
	}
	infer.Infer(api.Program{})
	infer.Has(api.Program{}, api.Expr{}, api.Type{})
	loop := data("List")
	loop.L = []api.Type{loop}
	loop.L[0] = loop
	if is, e := infer.Has(declared, num(1), loop); is || e != api.ErrSize {
		t.Errorf("%t, %d", is, e)
	}
}

// spoil changes a node of an expression, which may be well formed still.
func (m maker) spoil(x *api.Expr) {
	if n := len(x.L) + len(x.Arms); n > 0 && m.Intn(4) > 0 {
		if i := m.Intn(n); i < len(x.L) {
			m.spoil(&x.L[i])
		} else {
			m.spoil(&x.Arms[i-len(x.L)].Body)
		}
		return
	}
	switch m.Intn(7) {
	case 0:
		x.Kind = api.Kind(m.Intn(24) - 2)
	case 1:
		x.N = m.Intn(4) - 1
	case 2:
		x.S = m.of("", "x", "X", "Ask", "Zap", "ask", "zap", "let", "+")
	case 3:
		x.T = m.of("", "ask", "zap")
	case 4:
		x.Names = append(x.Names, m.of("x", "y", "X"))
	case 5:
		x.L = append(x.L, v("x"))
	default:
		*x = v("y")
	}
}
