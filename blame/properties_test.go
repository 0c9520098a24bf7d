package blame_test

import (
	"os"
	"runtime/debug"
	"slices"
	"strconv"
	"testing"

	"reprise/api"
	"reprise/blame"
	"reprise/decl"
	"reprise/infer"
	"reprise/scope"
)

// TestMain lets the memory grow further before it is swept: the tests make many small trees, and keep none.
func TestMain(m *testing.M) {
	debug.SetGCPercent(800)
	os.Exit(m.Run())
}

// filled returns a program that is filled at open places.
func filled(t *testing.T, p api.Program, places ...[]int) api.Program {
	t.Helper()
	out, e := blame.Fill(p, places)
	if e != api.OK {
		t.Fatalf("%s at %v: %d", printed(p), places, e)
	}
	return out
}

// typing returns the error of typing a program.
func typing(p api.Program) api.Errno {
	_, _, e := infer.Infer(p)
	return e
}

// illTyped returns a random program that is ill-typed, and what its slice is.
func illTyped(t *testing.T, m maker) (p api.Program, holes [][]int) {
	t.Helper()
	for {
		p := m.program(t, 3)
		if holes, e := blame.Slice(p); e == api.OK {
			return p, holes
		}
	}
}

// P7.1, P7.3, P7.4, P7.10, P0.6: random programs are explained as the models say; all results are new memory, and the same each time.
func TestAgainstModel(t *testing.T) {
	t.Parallel()
	found, kinds, noCure := map[api.Errno]int{}, map[api.Kind]int{}, 0
	for i := range 700 {
		m := newMaker(int64(i), []int{0, 10, 30, 100}[i%4])
		p := m.program(t, 3)
		open, e := blame.Open(p)
		if want := openPlaces(p); e != api.OK || !same(open, want) || shared(p, open) {
			t.Fatalf("%s: %v, %d; want %v", printed(p), open, e, want)
		}
		holes, core, cures, e := explain(t, p)
		found[e]++
		if e != api.OK {
			continue
		}
		for _, place := range core {
			kinds[nodeAt(&p, place).Kind]++
		}
		if len(cures) == 0 {
			noCure++
		}
		q := copied(p, true)
		again, _ := blame.Slice(q)
		coreAgain, _ := blame.Core(q)
		curesAgain, _ := blame.Cures(q)
		if !same(again, holes) || !same(coreAgain, core) || !same(curesAgain, cures) || shared(q, again, coreAgain, curesAgain, holes, core, cures) {
			t.Fatalf("%s: another call has another result, or shares memory", printed(p))
		}
	}
	if found[api.OK] < 200 || found[api.ErrState] < 200 || noCure < 10 || len(kinds) != int(api.Drop)+1 {
		t.Error(found, noCure, kinds)
	}
}

// P7.2, P7.10: Fill does what the model does, at any places.
func TestFillAgainstModel(t *testing.T) {
	t.Parallel()
	found := map[api.Errno]int{}
	for i := range 1500 {
		m := newMaker(int64(i), 30)
		p := m.program(t, 3)
		l := m.some(openPlaces(p), 4)
		if i%3 == 0 {
			l = m.some(allPlaces(p), 5)
		}
		if len(l) > 0 && i%5 == 0 {
			j := m.Intn(len(l))
			l[j] = append(slices.Clone(l[j]), m.Intn(4)-1)
		}
		before, placesBefore := copied(p, false), copied(l, false)
		got, e := blame.Fill(p, l)
		want, f := modelFill(p, l)
		if e != f || !same(got, want) {
			t.Fatalf("%s at %v: %s, %d; want %s, %d", printed(p), l, printed(got), e, printed(want), f)
		}
		again, _ := blame.Fill(copied(p, true), l)
		if !same(p, before) || !same(l, placesBefore) || shared(p, got, again) || !same(got, again) {
			t.Fatalf("%s at %v: memory is shared or changed", printed(p), l)
		}
		found[e]++
	}
	for _, e := range []api.Errno{api.OK, api.ErrNone, api.ErrArg, api.ErrTwice} {
		if found[e] < 50 {
			t.Error(found)
		}
	}
}

// apart returns those of some places that no other one contains and that contain no other one before them.
func apart(l [][]int) (out [][]int) {
	for _, place := range l {
		if !slices.ContainsFunc(out, func(o []int) bool { return begins(o, place) || begins(place, o) }) {
			out = append(out, place)
		}
	}
	return out
}

// P7.5: what has types has types with holes, and with more of them.
func TestHolesOnlyHelp(t *testing.T) {
	t.Parallel()
	helped, kept := 0, 0
	for i := range 1500 {
		m := newMaker(int64(i), []int{0, 20, 60}[i%3])
		p := m.program(t, 3)
		before := typing(p)
		for _, place := range apart(m.some(openPlaces(p), 6)) {
			// The places of a program that was filled are those of the program, but for what is in the holes.
			p = filled(t, p, place)
			after := typing(p)
			switch {
			case before == api.OK && after != api.OK:
				t.Fatalf("%s: filled at %v: %d", printed(p), place, after)
			case before == api.OK:
				kept++
			case after == api.OK:
				helped++
			}
			before = after
		}
	}
	if kept < 500 || helped < 100 {
		t.Error(kept, helped)
	}
}

// P7.6: the program of a slice is ill-typed, and with a hole at any further open place it is not.
func TestSmallestError(t *testing.T) {
	t.Parallel()
	further := 0
	for i := range 250 {
		m := newMaker(int64(i), []int{10, 30, 100}[i%3])
		p, holes := illTyped(t, m)
		sliced := filled(t, p, holes...)
		if e := typing(sliced); e != api.ErrType {
			t.Fatalf("%s: its slice %s: %d", printed(p), printed(sliced), e)
		}
		for _, place := range openPlaces(p) {
			if inAny(holes, place) {
				continue
			}
			more := [][]int{place}
			for _, hole := range holes {
				if !begins(place, hole) {
					more = append(more, hole)
				}
			}
			if e := typing(filled(t, p, more...)); e != api.OK {
				t.Fatalf("%s: its slice %s, filled at %v: %d", printed(p), printed(sliced), place, e)
			}
			further++
		}
	}
	if further < 1000 {
		t.Error(further)
	}
}

// P7.7: each cure is in the core, and cures; so does Main, unless a definition is ill-typed by itself.
func TestCures(t *testing.T) {
	t.Parallel()
	byMain, notByMain := 0, 0
	for i := range 400 {
		m := newMaker(int64(i), []int{10, 30, 100}[i%3])
		p, _ := illTyped(t, m)
		core, _ := blame.Core(p)
		cures, _ := blame.Cures(p)
		for _, place := range cures {
			if !slices.ContainsFunc(core, func(o []int) bool { return slices.Equal(o, place) }) {
				t.Fatalf("%s: the cure %v is not in the core %v", printed(p), place, core)
			}
			if e := typing(filled(t, p, place)); e != api.OK {
				t.Fatalf("%s: filled at the cure %v: %d", printed(p), place, e)
			}
		}
		alone := p
		alone.Main = api.Expr{Kind: api.Unit}
		is := slices.ContainsFunc(cures, func(o []int) bool { return slices.Equal(o, []int{len(p.Defs)}) })
		if is != (typing(alone) == api.OK) {
			t.Fatalf("%s: Main is a cure: %t", printed(p), is)
		}
		if is {
			byMain++
		} else {
			notByMain++
		}
	}
	if byMain < 50 || notByMain < 50 {
		t.Error(byMain, notByMain)
	}
}

// needSame compares what is said about two programs that have the same places.
func needSame(t *testing.T, p, q api.Program) {
	t.Helper()
	for _, f := range []func(api.Program) ([][]int, api.Errno){blame.Open, blame.Slice, blame.Core, blame.Cures} {
		a, e := f(p)
		b, e2 := f(q)
		if !same(a, b) || e != e2 {
			t.Fatalf("%s: %v, %d; %s: %v, %d", printed(p), a, e, printed(q), b, e2)
		}
	}
}

// renamed returns a program with other names of definitions, and bodies with other names that a function gives them.
func renamed(t *testing.T, p api.Program, names func(api.Expr) (api.Expr, api.Errno)) api.Program {
	t.Helper()
	p = copied(p, false)
	now := map[string]string{}
	rename := func(x api.Expr) api.Expr {
		x, e := names(x)
		for from, to := range now {
			if e == api.OK {
				x, e = scope.Subst(x, from, api.Expr{Kind: api.Var, S: to})
			}
		}
		if e != api.OK {
			t.Fatalf("%s: %d", printed(p), e)
		}
		return x
	}
	for i, d := range p.Defs {
		p.Defs[i] = api.Def{Name: "def" + strconv.Itoa(i), Body: rename(d.Body)}
		now[d.Name] = p.Defs[i].Name
	}
	p.Main = rename(p.Main)
	return p
}

// P7.8: renaming bound names changes nothing.
func TestNames(t *testing.T) {
	t.Parallel()
	for i := range 150 {
		m := newMaker(int64(i), []int{0, 30, 100}[i%3])
		p := m.program(t, 3)
		needSame(t, p, renamed(t, p, scope.Canon))
		needSame(t, p, renamed(t, p, scope.Unique))
		needSame(t, p, renamed(t, p, func(x api.Expr) (api.Expr, api.Errno) { return x, api.OK }))
	}
}

// P7.9: one more data type, or effect, changes nothing.
func TestDeclarations(t *testing.T) {
	t.Parallel()
	tint, tvoid := api.Type{Kind: api.TInt}, api.Type{Kind: api.TData, S: "Void"}
	for i := range 200 {
		m := newMaker(int64(i), []int{0, 30, 100}[i%3])
		p := m.program(t, 3)
		more := copied(p, false)
		more.Data = append(more.Data, api.Data{Name: "New", Params: []string{"a"}, Cons: []api.Cons{{Name: "Newer", Args: []api.Type{tint, tvoid}}}})
		needSame(t, p, more)
		more.Effects = append(more.Effects, api.Effect{Name: "Newest", Ops: []api.Op{{Name: "first", Arg: tint, Res: tvoid, Once: true}, {Name: "second", Arg: tvoid, Res: tint}}})
		needSame(t, p, more)
		more.Data = p.Data
		needSame(t, p, more)
	}
}

// P7.10: what is done with a result changes no other one.
func TestMemory(t *testing.T) {
	p := parsed(t, "def f = fun x -> Some[x + true] main f () + 1")
	for _, f := range []func(api.Program) ([][]int, api.Errno){blame.Open, blame.Slice, blame.Core, blame.Cures} {
		l, _ := f(p)
		want := copied(l, false)
		for i := range l {
			// Neither what is written to a place, nor what is appended to it, is seen in another one.
			more := append(l[i], 7)
			for j := range more {
				more[j] = -1
			}
			if !same(l[i+1:], want[i+1:]) {
				t.Fatalf("%v; was %v", l, want)
			}
		}
		if again, _ := f(p); !same(again, want) {
			t.Fatalf("%v; was %v", again, want)
		}
	}
	before := copied(p, false)
	got := filled(t, p, places("0000 10")...)
	got.Data[0].Cons[1].Args[0].S, got.Data[1].Params[0], got.Effects[0].Ops[0].Name = "a", "b", "c"
	got.Defs[0].Body.Names[0], got.Main.L[0].Names[0], got.Main.L[1].N = "d", "e", 5
	if !same(p, before) {
		t.Errorf("%s", printed(p))
	}
}

// P0.6, R8: anything can be asked for, and what is wrong has the error of layer 4.
func TestAnything(t *testing.T) {
	t.Parallel()
	found := map[api.Errno]int{}
	for i := range 1000 {
		m := newMaker(int64(i), 50)
		p := copied(m.program(t, 3), false)
		for range 1 + m.Intn(2) {
			m.spoil(&p)
		}
		want := decl.Check(p)
		found[want]++
		if open, e := blame.Open(p); e != want || e != api.OK && len(open) > 0 {
			t.Fatalf("%v: %v, %d; want %d", p, open, e, want)
		}
		l := m.some(places("0 00 01 1 10 11 2"), 3)
		got, e := blame.Fill(p, l)
		if wantProgram, want := modelFill(p, l); e != want || !same(got, wantProgram) {
			t.Fatalf("%v: %v, %d; want %d", p, got, e, want)
		}
		explain(t, p)
	}
	if len(found) < 7 || found[api.OK] < 100 {
		t.Error(found)
	}
	loop := api.Expr{Kind: api.App, L: make([]api.Expr, 2)}
	loop.L[0], loop.L[1] = loop, loop
	endless := api.Type{Kind: api.TFun, L: make([]api.Type, 2)}
	endless.L[0], endless.L[1] = endless, endless
	for _, p := range []api.Program{{Main: loop}, {Defs: []api.Def{{Name: "f", Body: loop}}, Main: blame.Hole()}, {Data: []api.Data{{Name: "A", Cons: []api.Cons{{Name: "B", Args: []api.Type{endless}}}}}, Main: blame.Hole()}, {Defs: make([]api.Def, api.MaxDefs+1), Main: blame.Hole()}} {
		open, e := blame.Open(p)
		got, e2 := blame.Fill(p, places("0"))
		holes, e3 := blame.Slice(p)
		core, e4 := blame.Core(p)
		cures, e5 := blame.Cures(p)
		if e != api.ErrSize || e2 != e || e3 != e || e4 != e || e5 != e || len(open)+len(holes)+len(core)+len(cures) > 0 || !same(got, api.Program{}) {
			t.Errorf("%d, %d, %d, %d, %d", e, e2, e3, e4, e5)
		}
	}
}

// spoil changes a program, which may be in order still.
func (m maker) spoil(p *api.Program) {
	all := allPlaces(*p)
	x := nodeAt(p, all[m.Intn(len(all))])
	switch m.Intn(10) {
	case 0:
		x.Kind = api.Kind(m.Intn(24) - 2)
	case 1:
		x.N = m.Intn(4) - 1
	case 2:
		x.S = m.of("", "x", "X", "Ask", "Some", "ask", "zap", "let", "+")
	case 3:
		x.T = m.of("", "ask", "zap")
	case 4:
		x.Names = append(x.Names, m.of("x", "y", "X"))
	case 5:
		x.L = append(x.L, blame.Hole())
	case 6:
		x.Arms = append(x.Arms, api.Arm{Op: m.of("return", "ask", "None"), Names: []string{"x"}, Body: blame.Hole()})
	case 7:
		p.Data[m.Intn(3)].Name = m.of("x", "Opt", "Other", "Int")
	case 8:
		p.Effects[m.Intn(2)].Ops[0].Arg = api.Type{Kind: api.TypeKind(m.Intn(8)), S: m.of("", "Void", "Zap")}
	default:
		*x = api.Expr{Kind: api.Var, S: m.variable()}
	}
}
