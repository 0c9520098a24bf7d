package blame_test

import (
	"strings"
	"testing"

	"reprise/api"
	"reprise/blame"
	"reprise/infer"
	"reprise/scope"
	"reprise/syntax"
)

// P7.1: the hole is closed, has every type and every row, and is new each time.
func TestHole(t *testing.T) {
	hole := blame.Hole()
	text, e := syntax.Show(hole)
	if text != "rec hole x = hole x in hole ()" || e != api.OK || !same(hole, theHole()) {
		t.Errorf("%q, %d", text, e)
	}
	closed, _ := scope.Closed(hole)
	of, e := infer.Expr(api.Program{}, hole)
	any, _, _ := syntax.ParseType("Unit -> <| r0> t0")
	if !closed || e != api.OK || !same(of, any) {
		t.Errorf("%t; %v, %d", closed, of, e)
	}
	other := blame.Hole()
	other.Names[0], other.L[0].L[1].S, other.L[1].L[0].S = "a", "b", "c"
	if !same(hole, theHole()) || shared(hole, blame.Hole()) {
		t.Errorf("%v", hole)
	}
}

// P7.1: a value is fixed that is the body of a definition, or defined by a Let, or within such a Con; everything else is open.
func TestOpen(t *testing.T) {
	for _, c := range []struct{ text, want string }{
		{"main let x = 1 in x", "0 01"}, {"main 1 + true", "0 00 01"}, {"main 1", "0"}, {"main x", "0"}, {"main fun x -> x", "0 00"}, {"main Pair[1, 2]", "0 00 01"}, {"main Pair[1, do ask 2]", "0 00 01 010"},
		// All kinds of values, and what looks like them.
		{"def f = 1 main 1", "1"}, {"def f = true main 1", "1"}, {"def f = () main 1", "1"}, {"def f = x main 1", "1"}, {"def f = None main 1", "1"}, {"def f = fun x -> x + 1 main 1", "00 000 001 1"}, {"def f = 1 + 1 main 1", "0 00 01 1"}, {"def f = rec g x = x in g main 1", "0 00 01 1"}, {"def f = let x = 1 in x main 1", "0 01 1"}, {"def f = f 1 main 1", "0 00 01 1"}, {"def f = do ask 1 main 1", "0 00 1"}, {"def f = mask Ask 1 main 1", "0 00 1"},
		{"def f = if true then 1 else 2 main 1", "0 00 01 02 1"}, {"def f = match None { None -> 1; Some x -> x } main 1", "0 00 01 02 1"}, {"def f = handle Nop 1 { return x -> x } main 1", "0 00 01 1"}, {"def f = named h Ask h.ask 1 { return x -> x; ask n k -> k n } main 1", "0 00 000 01 02 020 021 1"}, {"def f = using x [] = 1 close fun y -> () in x main 1", "0 00 01 010 02 1"}, {"def f = resume k 1 main drop k", "0 00 1"},
		// Constructors are values with all of their arguments, or not at all.
		{"def f = Pair[1, Some[fun x -> 1 + x]] main 1", "0100 01000 01001 1"}, {"def f = Pair[Some[1], Some[1 + 2]] main 1", "0 00 000 01 010 0100 0101 1"}, {"def f = Pair[fun x -> x, do ask 1] main 1", "0 00 000 01 010 1"}, {"main let x = Pair[Pair[1, x], Pair[fun x -> Some[1], ()]] in x", "0 00100 001000 01"}, {"main Some[Pair[1, 2]]", "0 00 000 001"},
		// Of a Let the first part alone, of no other node any part.
		{"main let f = fun x -> let y = Some[x] in fun z -> y in fun x -> f", "0 000 0001 00010 01 010"}, {"main let x = let y = 1 in 2 in 3", "0 00 001 01"}, {"main fun x -> let y = x in let z = y in z", "0 00 001 0011"}, {"main rec f x = fun y -> y in fun z -> z", "0 00 000 01 010"}, {"main if let x = 1 in true then Some[fun x -> x] else None", "0 00 001 01 010 0100 02"}, {"main handle Ask Some[1] { return x -> let y = x in y; ask n k -> let k = k in k n }", "0 00 000 01 011 02 021 0210 0211"},
		{"def f = fun x -> x def g = f 1 def f = g main f g", "00 1 10 11 3 30 31"},
	} {
		p := parsed(t, c.text)
		l, e := blame.Open(p)
		if !same(l, places(c.want)) || e != api.OK || !same(openPlaces(p), l) {
			t.Errorf("%s: %v, %d; want %s, by the model %v", c.text, l, e, c.want, openPlaces(p))
		}
	}
}

// P7.2: a program is filled at open places of which none contains another one.
func TestFill(t *testing.T) {
	const hole = "(rec hole x = hole x in hole ())"
	for _, c := range []struct {
		text, at, want string
		e              api.Errno
	}{
		{"main 1 + true", "", "main 1 + true", api.OK}, {"main 1 + true", "0", "main rec hole x = hole x in hole ()", api.OK}, {"main 1 + true", "00", "main " + hole + " + true", api.OK}, {"main 1 + true", "01 00", "main " + hole + " + " + hole, api.OK}, {"main x", "0", "main " + hole, api.OK},
		{"def f = 1 + 2 def g = f main g", "0 2", "def f = " + hole + " def g = f main " + hole, api.OK}, {"def f = Some[fun x -> x] main f", "000 1", "def f = Some[fun x -> " + hole + "] main " + hole, api.OK}, {"main let x = 1 in fun x -> x", "010", "main let x = 1 in fun x -> " + hole, api.OK}, {"main handle Ask do ask 1 { return x -> x; ask n k -> k n }", "02 000 01", "main handle Ask do ask " + hole + " { return x -> " + hole + "; ask n k -> " + hole + " }", api.OK}, {"main match None { None -> 1; Some x -> x }", "02 00", "main match " + hole + " { None -> 1; Some x -> " + hole + " }", api.OK},
		// No place.
		{"main 1", "1", "", api.ErrNone}, {"main 1", "00", "", api.ErrNone}, {"main 1 + 2", "02", "", api.ErrNone}, {"main 1 + 2", "000", "", api.ErrNone}, {"def f = 1 main f", "2", "", api.ErrNone}, {"def f = 1 main f", "00", "", api.ErrNone}, {"main match None { None -> 1; Some x -> x }", "03", "", api.ErrNone},
		// Fixed places.
		{"def f = 1 main f", "0", "", api.ErrArg}, {"main let x = fun y -> y in x", "00", "", api.ErrArg}, {"main let x = Some[1] in x", "000", "", api.ErrArg},
		// Places within each other.
		{"main 1 + 2", "00 00", "", api.ErrTwice}, {"main 1 + 2", "0 00", "", api.ErrTwice}, {"main 1 + 2", "00 0", "", api.ErrTwice}, {"main Some[Some[Some[1]]]", "000 0", "", api.ErrTwice}, {"main Some[Some[Some[1]]]", "0 0000", "", api.ErrTwice}, {"main 1 + (2 + 3)", "00 011 01", "", api.ErrTwice},
		// The first place with an error decides, and of its errors the first one.
		{"main 1 + 2", "00 00 9", "", api.ErrTwice}, {"main 1 + 2", "00 9 00", "", api.ErrNone}, {"main let x = 1 in x", "0 00", "", api.ErrArg}, {"main let x = 1 in x", "01 01 00", "", api.ErrTwice}, {"main let x = 1 in x", "00 9", "", api.ErrArg}, {"main let x = 1 in x", "9 00", "", api.ErrNone}, {"main let x = 1 in x", "0 000", "", api.ErrNone},
	} {
		p := parsed(t, c.text)
		before := copied(p, false)
		got, e := blame.Fill(p, places(c.at))
		want := api.Program{}
		if c.e == api.OK {
			want = parsed(t, c.want)
		}
		if e != c.e || !same(got, want) || !same(p, before) {
			t.Errorf("%s at %s: %s, %d; want %s, %d", c.text, c.at, printed(got), e, c.want, c.e)
		}
	}
	p := parsed(t, "main 1 + 2")
	for _, l := range [][][]int{{nil}, {{}}, {{-1}}, {{0, -1}}, {{0, 0, -1}}, {{0, 1, 0, 0, 0, 0}}, {{1 << 40}}, {{0, -1 << 40}}, {{0, 0}, nil}} {
		if got, e := blame.Fill(p, l); e != api.ErrNone || !same(got, api.Program{}) {
			t.Errorf("%v: %v, %d", l, got, e)
		}
	}
}

// explain compares Slice, Core and Cures with the model, and returns what they return.
func explain(t *testing.T, p api.Program) (holes, core, cures [][]int, e api.Errno) {
	t.Helper()
	before := copied(p, false)
	holes, e = blame.Slice(p)
	core, e2 := blame.Core(p)
	cures, e3 := blame.Cures(p)
	wantHoles, wantCore, wantCures, want := modelSlice(p)
	if e != want || e2 != want || e3 != want || !same(holes, wantHoles) || !same(core, wantCore) || !same(cures, wantCures) {
		t.Fatalf("%s: %v, %d; %v, %d; %v, %d; want %v; %v; %v; %d", printed(p), holes, e, core, e2, cures, e3, wantHoles, wantCore, wantCures, want)
	}
	if !same(p, before) || shared(p, holes, core, cures) {
		t.Fatalf("%s: memory is shared or changed", printed(p))
	}
	return holes, core, cures, e
}

// P7.3, P7.4: the chapter's examples, and programs with errors of all kinds.
func TestSlice(t *testing.T) {
	const ask = "{ return x -> x; ask n k -> k n }"
	for _, c := range []struct{ text, slice, core, cures string }{
		{"main 1 + true", "00", "0 01", "0 01"}, {"main let f = fun x -> x + 1 in f true", "0001", "0 00 000 0000 01 010 011", "0 000 0000 01 010 011"}, {"main if true then 1 else ()", "00", "0 01 02", "0 01 02"}, {"main fun f -> f f", "", "0 00 000 001", "0 00 000 001"},
		// Of several parts with which the same error is made, the last ones are left.
		{"main if 1 then 2 else 3", "01 02", "0 00", "0 00"}, {"main if true then 1 else if false then 2 else true", "00 01 020", "0 02 021 022", "0 02 022"}, {"main 1 2", "01", "0 00", "0 00"}, {"main Some[1 + true]", "000", "0 00 001", "0 00 001"}, {"main (fun x -> x + 1) true", "0001", "0 00 000 0000 01", "0 00 000 0000 01"}, {"main match 1 { None -> 2; Some x -> x }", "01 02", "0 00", "0 00"}, {"main match Some[true] { None -> 2; Some x -> x + 1 }", "01 021", "0 00 000 02 020", "0 00 000 02 020"}, {"main true + true", "00", "0 01", "0"},
		// Two errors: the last one is left, and only what is around both cures them.
		{"main Pair[1 + true, 2 + false]", "00 010", "0 01 011", "0"}, {"main (1 + true) + ()", "00", "0 01", "0"}, {"main 1 + (2 + true)", "00 010", "0 01 011", "0 01 011"}, {"def f = fun x -> x + true def g = fun x -> 1 2 main 1", "00 101 2", "0 1 10 100", ""}, {"def f = 1 + true main 2 + false", "0 10", "1 11", ""},
		// What is generalized, and what is not; a fixed place is in the core, and no cure.
		{"def id = fun x -> x main id 1 + id true", "10", "0 00 1 11 110 111", "00 1 11 110 111"}, {"def id = (fun x -> x) (fun x -> x) main Pair[id 1, id true]", "0", "1 10 100 101 11 110 111", "1 10 100 101 11 110 111"}, {"def n = 1 main n 2", "11", "0 1 10", "1 10"}, {"main let x = Some[true] in match x { None -> 2; Some y -> y + 1 }", "011 0121", "0 00 000 01 010 012 0120", "0 01 010 012 0120"},
		// Effects that nobody handles, and scopes that are mentioned.
		{"main do ask 1", "00", "0", "0"}, {"main 1 + do ask 2", "00 010", "0 01", "0 01"}, {"def f = fun x -> do ask x main f 1", "000 11", "0 00 1 10", "00 1 10"}, {"main handle Ask (do ask 1 + do tick ()) " + ask, "000 0010 01 02", "0 00 001", "0 00 001"}, {"main mask Ask 1", "00", "0", "0"}, {"main named h Ask (fun x -> h.ask x) { return f -> f 1; ask n k -> n }", "0000 01 02", "0 00 000", "0 00 000"}, {"main named h Ask (fun x -> h.ask x) { return f -> 1; ask n k -> n }", "0000 01 02", "0 00 000", "0 00 000"},
		// Handlers, resumptions and resources.
		{"main handle Tick do tick () { return x -> x; tick u k -> k 1 }", "00 01 021", "0 02 020", "0 02 020"}, {"main handle Ask 1 { return x -> x; ask n k -> resume k n }", "00 01 020", "0 02", "0 02"}, {"main fun k -> drop k", "", "0 00", "0 00"}, {"main using x [] = 1 close fun y -> y in x", "02", "0 00 01 010", "0 00 01 010"}, {"main using x [Tick] = 1 close fun y -> () in x", "00 01 02", "0", "0"}, {"main named h Ask h.tick () " + ask, "000 01 02", "0 00", "0 00"},
		// Names that are those of the hole.
		{"main fun hole -> fun x -> hole hole + x", "0001", "0 00 000 0000 00000 00001", "0 00 000 0000 00000 00001"}, {"def hole = 1 main fun x -> hole x", "101", "0 1 10 100", "1 10 100"},
	} {
		p := parsed(t, c.text)
		holes, core, cures, e := explain(t, p)
		if e != api.OK || !same(holes, places(c.slice)) || !same(core, places(c.core)) || !same(cures, places(c.cures)) {
			t.Errorf("%s: %v; %v; %v; %d; want %s; %s; %s", c.text, holes, core, cures, e, c.slice, c.core, c.cures)
		}
	}
}

// P7.3, P7.4: definitions beyond the tenth one are told from the parts of others.
func TestManyDefinitions(t *testing.T) {
	p := parsed(t, "def a = 0 + 0 def b = (let c = 1 + 2 in c)"+strings.Repeat(" def d = 0 + 1", 9)+" main Pair[a 1, if b then 1 else 2]")
	holes, _, cures, e := explain(t, p)
	if e != api.OK || len(holes) != 15 || !same(cures, [][]int{{11}}) {
		t.Errorf("%v; %v; %d", holes, cures, e)
	}
}

// P7.1 to P7.4, R1: errors of other layers come first, in their order; a program that has types has no slice.
func TestErrors(t *testing.T) {
	twice := parsed(t, "main 1 + true")
	twice.Effects[1].Name = "Ask"
	large := parsed(t, "main "+doubled(30))
	for _, c := range []struct {
		what                string
		p                   api.Program
		check, fill, typing api.Errno
	}{
		{"no name", api.Program{}, api.ErrName, api.ErrName, api.ErrName}, {"two effects of a name", twice, api.ErrTwice, api.ErrTwice, api.ErrTwice}, {"no operation", parsed(t, "main do peek true"), api.ErrNone, api.ErrNone, api.ErrNone}, {"no such arity", parsed(t, "main Some[1, 2 + true]"), api.ErrArity, api.ErrArity, api.ErrArity}, {"no such cases", parsed(t, "def f = match 1 { None -> 2 } main x"), api.ErrCases, api.ErrCases, api.ErrCases},
		{"a free variable", parsed(t, "main x + true"), api.OK, api.ErrNone, api.ErrNone}, {"a free handler name", parsed(t, "main h.ask true"), api.OK, api.ErrNone, api.ErrNone}, {"a definition that is used too early", parsed(t, "def f = g def g = 1 main f + true"), api.OK, api.ErrNone, api.ErrNone}, {"too large a type", large, api.OK, api.ErrNone, api.ErrSize}, {"well typed", parsed(t, "main 1 + 2"), api.OK, api.ErrNone, api.ErrState}, {"well typed, with handlers", parsed(t, "main handle Ask (do ask 1) { return x -> x; ask n k -> k n }"), api.OK, api.ErrNone, api.ErrState},
	} {
		open, e := blame.Open(c.p)
		if want := openPlacesIf(c.check == api.OK, c.p); e != c.check || !same(open, want) {
			t.Errorf("%s: %v, %d; want %v, %d", c.what, open, e, want, c.check)
		}
		if got, e := blame.Fill(c.p, places("9")); e != c.fill || !same(got, api.Program{}) {
			t.Errorf("%s: filled nowhere: %v, %d; want %d", c.what, got, e, c.fill)
		}
		if _, _, _, e := explain(t, c.p); e != c.typing {
			t.Errorf("%s: %d; want %d", c.what, e, c.typing)
		}
	}
}

// doubled returns applications that give variables types of which each is twice as large as the one before.
func doubled(n int) string {
	return strings.Repeat("fun q -> (", n) + "fun q -> 1" + strings.Repeat(") Pair[q, q]", n)
}

// openPlacesIf returns the open places of a program that is in order, and none of another one.
func openPlacesIf(inOrder bool, p api.Program) [][]int {
	if !inOrder {
		return nil
	}
	return openPlaces(p)
}
