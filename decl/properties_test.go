package decl_test

import (
	"reflect"
	"slices"
	"testing"

	"reprise/api"
	"reprise/decl"
	"reprise/syntax"
)

// accepted returns random declarations that are in order.
func (m maker) accepted(t *testing.T, functions bool) api.Program {
	t.Helper()
	p := m.declarations(functions)
	if e := decl.Decls(p); e != api.OK {
		t.Fatalf("Decls(%s) = %d", printed(p), e)
	}
	return p
}

// P4.1: as the model has it, in order or not.
func TestDeclsAgainstModel(t *testing.T) {
	m := newMaker(1)
	found := map[api.Errno]int{}
	for range 20000 {
		p := m.declarations(true)
		for range m.Intn(3) {
			m.spoilDecls(&p)
		}
		got, want := decl.Decls(p), modelDecls(p)
		if got != want {
			t.Fatalf("Decls(%s) = %d; want %d: %v", printed(p), got, want, p)
		}
		found[got]++
	}
	for _, e := range []api.Errno{api.OK, api.ErrTwice, api.ErrNone, api.ErrArity, api.ErrArg, api.ErrName} {
		if found[e] < 200 {
			t.Errorf("error %d came up %d times", e, found[e])
		}
	}
}

// P4.2, P4.10: as the model has it; an expression is in order just if its parts are, and its node with other parts is.
func TestExpressionsAgainstModel(t *testing.T) {
	m := newMaker(2)
	found := map[api.Errno]int{}
	for range 12000 {
		p := m.accepted(t, true)
		e := m.expr(p, 1+m.Intn(5))
		got, want := decl.CheckExpr(p, e), modelNodes(p, e)
		if got != want {
			t.Fatalf("%s: CheckExpr(%s) = %d; want %d", printed(p), shown(e), got, want)
		}
		found[got]++
		bare := copied(e, false)
		for i := range bare.L {
			bare.L[i] = api.Expr{Kind: api.Unit}
		}
		for i := range bare.Arms {
			bare.Arms[i].Body = api.Expr{Kind: api.Unit}
		}
		all := decl.CheckExpr(p, bare) == api.OK
		for _, part := range partsOf(e) {
			all = decl.CheckExpr(p, part) == api.OK && all
		}
		if all != (got == api.OK) {
			t.Fatalf("%s: CheckExpr(%s) = %d, but its parts and its node: %t", printed(p), shown(e), got, all)
		}
	}
	for _, e := range []api.Errno{api.OK, api.ErrNone, api.ErrArity, api.ErrCases, api.ErrTwice} {
		if found[e] < 40 {
			t.Errorf("error %d came up %d times", e, found[e])
		}
	}
}

// P4.2, P4.10: Check accepts a program just if its declarations, its definitions and its main are in order.
func TestProgramsAgainstModel(t *testing.T) {
	m := newMaker(3)
	accepted := 0
	for range 6000 {
		p := m.declarations(true)
		if m.Intn(3) == 0 {
			m.spoilDecls(&p)
		}
		for _, name := range []string{"f", "g", "f"}[:m.Intn(4)] {
			p.Defs = append(p.Defs, api.Def{Name: name, Body: m.expr(p, 1+m.Intn(4))})
		}
		p.Main = m.expr(p, 1+m.Intn(4))
		want := syntax.CheckProgram(p)
		if want == api.OK {
			want = modelDecls(p)
		}
		trees := []api.Expr{p.Main}
		for i := range p.Defs {
			trees = slices.Insert(trees, i, p.Defs[i].Body)
		}
		all := decl.Decls(p) == api.OK
		for _, e := range trees {
			if want == api.OK {
				want = modelNodes(p, e)
			}
			all = decl.CheckExpr(p, e) == api.OK && all
		}
		got := decl.Check(p)
		if got != want || (got == api.OK) != all {
			t.Fatalf("Check(%s) = %d; want %d, and %t by parts", printed(p), got, want, all)
		}
		if got == api.OK {
			accepted++
		}
	}
	if accepted < 500 {
		t.Errorf("only %d programs are accepted", accepted)
	}
}

// P4.3: as the model has it.
func TestTypesAgainstModel(t *testing.T) {
	m := newMaker(4)
	found := map[api.Errno]int{}
	for range 10000 {
		p := m.accepted(t, true)
		x := copied(m.typ(p, 4, someParams[:m.Intn(2)], true), false)
		for range m.Intn(3) {
			m.spoilType(&x)
		}
		got, want := decl.CheckType(p, x), modelCheckType(p, x)
		if got != want {
			t.Fatalf("%s: CheckType(%s) = %d; want %d", printed(p), shownTypes(x), got, want)
		}
		found[got]++
	}
	for _, e := range []api.Errno{api.OK, api.ErrNone, api.ErrArity, api.ErrArg, api.ErrName} {
		if found[e] < 200 {
			t.Errorf("error %d came up %d times", e, found[e])
		}
	}
}

// P4.4, P4.11: what is declared is found where it is.
func TestFoundWhereDeclared(t *testing.T) {
	m := newMaker(5)
	for range 2000 {
		p := m.accepted(t, true)
		for i, d := range p.Data {
			for j, c := range d.Cons {
				if a, b, e := decl.FindCon(p, c.Name); a != i || b != j || e != api.OK {
					t.Fatalf("%s: FindCon(%s) = %d, %d, %d", printed(p), c.Name, a, b, e)
				}
			}
		}
		for i, f := range p.Effects {
			if a, e := decl.FindEffect(p, f.Name); a != i || e != api.OK {
				t.Fatalf("%s: FindEffect(%s) = %d, %d", printed(p), f.Name, a, e)
			}
			for j, o := range f.Ops {
				if a, b, e := decl.FindOp(p, o.Name); a != i || b != j || e != api.OK {
					t.Fatalf("%s: FindOp(%s) = %d, %d, %d", printed(p), o.Name, a, b, e)
				}
			}
		}
		for _, name := range []string{"K99", "o99", "Z", "", "A b"} {
			_, _, e1 := decl.FindCon(p, name)
			_, _, e2 := decl.FindOp(p, name)
			_, e3 := decl.FindEffect(p, name)
			if e1 != api.ErrNone || e2 != api.ErrNone || e3 != api.ErrNone {
				t.Fatalf("%s is found: %d, %d, %d", name, e1, e2, e3)
			}
		}
	}
}

// params returns the parameters of a data type as types.
func params(d api.Data) (l []api.Type) {
	for _, x := range d.Params {
		l = append(l, param(x))
	}
	return l
}

// P4.5, P4.14: fields are the arguments with parameters replaced, and as declared with the parameters themselves.
func TestFieldsAgainstModel(t *testing.T) {
	m := newMaker(6)
	for range 4000 {
		p := m.accepted(t, true)
		for _, d := range p.Data {
			var args []api.Type
			for range d.Params {
				args = append(args, m.typ(p, 3, someParams, true))
			}
			for _, c := range d.Cons {
				own, e1 := decl.Fields(p, c.Name, params(d))
				l, e2 := decl.Fields(p, c.Name, args)
				if e1 != api.OK || e2 != api.OK || !slices.EqualFunc(own, c.Args, syntax.SameType) || len(l) != len(c.Args) {
					t.Fatalf("%s: Fields(%s) = %s, %d; %s, %d", printed(p), c.Name, shownTypes(own...), e1, shownTypes(l...), e2)
				}
				for i, a := range c.Args {
					if want := modelReplace(a, d.Params, args); !syntax.SameType(l[i], want) {
						t.Fatalf("%s: Fields(%s, %s) has %s; want %s", printed(p), c.Name, shownTypes(args...), shownTypes(l[i]), shownTypes(want))
					}
				}
				if more, e := decl.Fields(p, c.Name, append(slices.Clone(args), tint)); len(more) != 0 || e != api.ErrArity {
					t.Fatalf("%s: Fields(%s) with one more = %v, %d", printed(p), c.Name, more, e)
				}
			}
		}
	}
}

// P4.6, P4.14: as the model has it, and a data type has a value just if the fields of one of its constructors all have.
func TestInhabitedAgainstModel(t *testing.T) {
	m := newMaker(7)
	found := map[bool]int{}
	inhabited := func(p api.Program, x api.Type) bool {
		is, e := decl.Inhabited(p, x)
		if e != api.OK {
			t.Fatalf("%s: Inhabited(%s) = %d", printed(p), shownTypes(x), e)
		}
		return is
	}
	for range 6000 {
		p := m.accepted(t, true)
		x := m.typ(p, 3, nil, true)
		is := inhabited(p, x)
		found[is]++
		if model := modelInhabited(p, x, 6, map[string]bool{}); model != is {
			t.Fatalf("%s: Inhabited(%s) = %t; by the model %t", printed(p), shownTypes(x), is, model)
		}
		if x.Kind != api.TData {
			continue
		}
		d, _ := modelData(p, x.S)
		any := false
		for _, c := range d.Cons {
			fields, e := decl.Fields(p, c.Name, x.L)
			if e != api.OK {
				t.Fatalf("%s: Fields(%s) = %d", printed(p), c.Name, e)
			}
			any = any || !slices.ContainsFunc(fields, func(f api.Type) bool { return !inhabited(p, f) })
		}
		if any != is {
			t.Fatalf("%s: Inhabited(%s) = %t, of its fields %t", printed(p), shownTypes(x), is, any)
		}
	}
	if found[true] < 1000 || found[false] < 200 {
		t.Errorf("inhabited and not: %v", found)
	}
}

// P4.7, P4.13: as the model has it; a Con with arguments fits just if each argument fits its field.
func TestFitsAgainstModel(t *testing.T) {
	m := newMaker(8)
	fitting := 0
	for range 15000 {
		p := m.accepted(t, true)
		x := m.typ(p, 3, nil, true)
		e := m.value(p, x, 5)
		if m.Intn(3) == 0 {
			x = m.typ(p, 3, nil, true)
		}
		is, err := decl.Fits(p, x, e)
		if want := modelFits(p, x, e); is != want || err != api.OK {
			t.Fatalf("%s: Fits(%s, %s) = %t, %d", printed(p), shownTypes(x), shown(e), is, err)
		}
		if is {
			fitting++
		}
		if e.Kind != api.Con || x.Kind != api.TData {
			continue
		}
		fields, err := decl.Fields(p, e.S, x.L)
		d, _, _ := modelCon(p, e.S)
		all := err == api.OK && len(fields) == len(e.L) && d.Name == x.S
		for i := 0; all && i < len(fields); i++ {
			all, _ = decl.Fits(p, fields[i], e.L[i])
		}
		if all != is {
			t.Fatalf("%s: Fits(%s, %s) = %t, its arguments %t", printed(p), shownTypes(x), shown(e), is, all)
		}
	}
	if fitting < 3000 {
		t.Errorf("only %d values fit", fitting)
	}
}

// P4.8: as the model has it, which makes all expressions and keeps those that fit.
func TestValuesAgainstModel(t *testing.T) {
	m := newMaker(9)
	several := 0
	for range 1500 {
		p := m.accepted(t, true)
		x, most := m.dataType(p, true), m.Intn(6)
		n, e := decl.Count(p, x, most)
		l, f := decl.Values(p, x, most)
		if modelHasFunctions(p, x) {
			if e != api.ErrType || f != api.ErrType || n != 0 || len(l) != 0 {
				t.Fatalf("%s: %s has functions: %d, %d", printed(p), shownTypes(x), e, f)
			}
			continue
		}
		want := modelValues(p, x, most)
		if n != len(want) || e != api.OK {
			t.Fatalf("%s: Count(%s, %d) = %d, %d; want %d", printed(p), shownTypes(x), most, n, e, len(want))
		}
		if len(want) > api.MaxDeValues {
			if len(l) != 0 || f != api.ErrSize {
				t.Fatalf("%s: Values(%s, %d): %d, %d", printed(p), shownTypes(x), most, len(l), f)
			}
			continue
		}
		if !slices.EqualFunc(l, want, syntax.Same) || f != api.OK {
			t.Fatalf("%s: Values(%s, %d) = %v, %d; want %v", printed(p), shownTypes(x), most, l, f, want)
		}
		if n > 2 {
			several++
		}
	}
	if several < 100 {
		t.Errorf("only %d types have several values", several)
	}
}

// P4.9, P4.13: what is promised of the values of a type.
func TestListed(t *testing.T) {
	m := newMaker(10)
	several := 0
	for range 900 {
		p := m.accepted(t, false)
		x, y := m.dataType(p, false), m.typ(p, 3, nil, false)
		var before []api.Expr
		for most := range api.MaxDeSize + 1 {
			n, e := decl.Count(p, x, most)
			l, f := decl.Values(p, x, most)
			if e != api.OK || n > api.MaxDeValues && f == api.ErrSize {
				break
			}
			if f != api.OK || len(l) != n || n < len(before) || !slices.EqualFunc(l[:len(before)], before, syntax.Same) {
				t.Fatalf("%s: Values(%s, %d) = %v, %d, %d; Count = %d", printed(p), shownTypes(x), most, l, len(l), f, n)
			}
			if is, _ := decl.Inhabited(p, x); n > 0 && !is {
				t.Fatalf("%s: Count(%s, %d) = %d, but it is not inhabited", printed(p), shownTypes(x), most, n)
			}
			for i, v := range l {
				wantValue(t, p, x, v, most)
				if i > 0 && modelCompare(p, l[i-1], v) >= 0 {
					t.Fatalf("%s: Values(%s, %d): %s, %s", printed(p), shownTypes(x), most, shown(l[i-1]), shown(v))
				}
				if other, _ := decl.Fits(p, y, v); other && (y.Kind != x.Kind || y.S != x.S) {
					t.Fatalf("%s: %s fits %s and %s", printed(p), shown(v), shownTypes(x), shownTypes(y))
				}
			}
			before = l
		}
		if len(before) > 10 {
			several++
		}
	}
	if several < 100 {
		t.Errorf("only %d types have many values", several)
	}
}

// wantValue checks that a value fits its type, is no larger than asked for, and is read as it is printed.
func wantValue(t *testing.T, p api.Program, x api.Type, v api.Expr, most int) {
	t.Helper()
	if is, e := decl.Fits(p, x, v); !is || e != api.OK || syntax.Size(v) > most || decl.CheckExpr(p, v) != api.OK {
		t.Fatalf("%s: %s is no value of %s with %d nodes", printed(p), shown(v), shownTypes(x), most)
	}
	if read, _, e := syntax.ParseExpr(shown(v)); !syntax.Same(read, v) || e != api.OK {
		t.Fatalf("%s is read as %s", shown(v), shown(read))
	}
}

// P4.12: with one more data type, or effect, what is in order stays so, with the same values.
func TestOneMore(t *testing.T) {
	m := newMaker(11)
	for range 2500 {
		p := m.accepted(t, true)
		q := copied(p, false)
		if m.Intn(2) == 0 {
			q.Data = append(q.Data, api.Data{Name: "New", Params: []string{"a"}, Cons: []api.Cons{{Name: "New1", Args: []api.Type{data("New", param("a")), data(p.Data[0].Name, params(p.Data[0])...)}}, {Name: "New2"}}})
			q.Data[len(p.Data)].Cons[0].Args[1].L = slices.Repeat([]api.Type{tint}, len(p.Data[0].Params))
		} else {
			q.Effects = append(q.Effects, api.Effect{Name: "New", Ops: []api.Op{{Name: "new", Arg: tint, Res: tbool}}})
		}
		e, x := m.expr(p, 4), m.typ(p, 3, nil, true)
		if decl.Decls(q) != api.OK || decl.CheckExpr(p, e) == api.OK && decl.CheckExpr(q, e) != api.OK || decl.CheckType(p, x) != decl.CheckType(q, x) {
			t.Fatalf("%s: not in order: %s, %s", printed(q), shown(e), shownTypes(x))
		}
		v := m.value(p, x, 4)
		a, b := aboutType(p, x, v, 4), aboutType(q, x, v, 4)
		if !reflect.DeepEqual(a, b) {
			t.Fatalf("%s: %s: %v; %v", printed(q), shownTypes(x), a, b)
		}
		p.Main, q.Main = e, e
		if decl.Check(p) == api.OK && decl.Check(q) != api.OK {
			t.Fatalf("%s: Check = %d", printed(q), decl.Check(q))
		}
	}
}

// aboutType returns what all functions say of a type.
func aboutType(p api.Program, x api.Type, v api.Expr, most int) []any {
	inhabited, e1 := decl.Inhabited(p, x)
	fits, e2 := decl.Fits(p, x, v)
	n, e3 := decl.Count(p, x, most)
	l, e4 := decl.Values(p, x, most)
	return []any{decl.CheckType(p, x), inhabited, e1, fits, e2, n, e3, l, e4}
}

// everything returns what all functions return.
func everything(p api.Program, e api.Expr, x api.Type, name string, args []api.Type, most int) []any {
	a, b, e1 := decl.FindCon(p, name)
	c, d, e2 := decl.FindOp(p, name)
	f, e3 := decl.FindEffect(p, name)
	fields, e4 := decl.Fields(p, name, args)
	l := []any{decl.Decls(p), decl.Check(p), decl.CheckExpr(p, e), a, b, e1, c, d, e2, f, e3, fields, e4}
	return append(l, aboutType(p, x, e, most)...)
}

// P4.15, R3, R8, P0.6: any arguments are accepted and stay as they are, equal ones give equal results, and so do nil and empty lists.
func TestAnyArguments(t *testing.T) {
	m := newMaker(12)
	for range 5000 {
		p := m.declarations(true)
		x := copied(m.typ(p, 3, nil, true), false)
		e := m.expr(p, 3)
		if m.Intn(2) == 0 {
			e = m.value(p, x, 4)
		}
		p.Main = copied(e, false)
		for range m.Intn(3) {
			m.spoilDecls(&p)
			m.spoilType(&x)
			m.spoil(&e)
		}
		name := m.of(slices.Concat(someWrong, someOps, someEffects, someData, []string{"K1", "K2", "o0"}))
		args := []api.Type{x, tint, x}[:m.Intn(4)]
		most := []int{-1, 0, 1, 3, 4, 8, 1 << 62, -1 << 63}[m.Intn(8)]
		p0, e0, x0, args0 := copied(p, false), copied(e, false), copied(x, false), copied(args, false)
		got := everything(p, e, x, name, args, most)
		again := everything(copied(p, true), copied(e, true), copied(x, true), name, copied(args, true), most)
		if !reflect.DeepEqual(got, again) {
			t.Fatalf("%s: %s, %s, %s: %v; %v", printed(p), shown(e), shownTypes(x), name, got, again)
		}
		if !reflect.DeepEqual(copied(p, false), p0) || !reflect.DeepEqual(copied(e, false), e0) || !reflect.DeepEqual(copied(x, false), x0) || !reflect.DeepEqual(copied(args, false), args0) {
			t.Fatalf("%s: %s, %s: arguments are changed", printed(p0), shown(e0), shownTypes(x0))
		}
	}
}

// spoil changes a node of an expression.
func (m maker) spoil(e *api.Expr) {
	if len(e.L) > 0 && m.Intn(3) > 0 {
		m.spoil(&e.L[m.Intn(len(e.L))])
		return
	}
	switch m.Intn(5) {
	case 0:
		e.Kind = api.Kind(m.Intn(23) - 1)
	case 1:
		e.N = m.Intn(5) - 2
	case 2:
		e.S = m.of(someWrong)
	case 3:
		e.Names = append(slices.Clone(e.Names), m.of(someWrong))
	case 4:
		e.L = append(slices.Clone(e.L), api.Expr{Kind: api.Unit})
	}
}

// R8, P0.6: trees that contain themselves, and lists that are far too long, are refused.
func TestEndlessTrees(t *testing.T) {
	x, e := endless()
	p := parsed(t, head)
	for i, got := range []api.Errno{decl.CheckExpr(p, e), decl.CheckType(p, x)} {
		if got != api.ErrSize {
			t.Errorf("%d: %d", i, got)
		}
	}
	if l, err := decl.Fields(p, "Cons", []api.Type{x}); len(l) != 0 || err != api.ErrSize {
		t.Errorf("Fields = %d", err)
	}
	endlessData := api.Program{Data: []api.Data{{Name: "List", Params: []string{"a"}, Cons: []api.Cons{{Name: "Cons", Args: []api.Type{x}}}}}, Defs: []api.Def{{Name: "f", Body: e}}, Main: e}
	if a, b, err := decl.FindCon(endlessData, "Cons"); a != 0 || b != 0 || err != api.OK {
		t.Errorf("FindCon = %d, %d, %d", a, b, err)
	}
	wantRefused(t, endlessData, api.ErrSize)
	many := api.Program{Data: make([]api.Data, 100000), Effects: make([]api.Effect, 100000), Defs: make([]api.Def, 100000)}
	wantRefused(t, many, api.ErrSize)
}

// P4.15, R4: results share no memory with arguments, nor a list of them with another one.
func TestMemory(t *testing.T) {
	m := newMaker(13)
	for range 2000 {
		p := m.accepted(t, false)
		x := m.typ(p, 3, nil, false)
		if l, e := decl.Values(p, x, 5); e == api.OK && shares(p, x, l) {
			t.Fatalf("%s: Values(%s) share memory", printed(p), shownTypes(x))
		}
	}
	p := parsed(t, "data P a { P a (Int -> <IO, E> a) (P (P a)) (a -> <IO> a) } effect E { }")
	arg := typ(t, "Int -> <E, IO> P Int")
	l, e := decl.Fields(p, "P", []api.Type{arg})
	if len(l) != 4 || e != api.OK || shares(p, arg, l) {
		t.Errorf("Fields = %s, %d share memory", shownTypes(l...), e)
	}
	m14 := newMaker(14)
	for range 1000 {
		p := m14.accepted(t, true)
		for _, d := range p.Data {
			var args []api.Type
			for range d.Params {
				args = append(args, m14.typ(p, 3, someParams, true))
			}
			for _, c := range d.Cons {
				if l, e := decl.Fields(p, c.Name, args); e != api.OK || shares(copied(p, false), copied(args, false), l) || shares(p, l) || shares(args, l) {
					t.Fatalf("%s: Fields(%s) = %d, or share memory", printed(p), c.Name, e)
				}
			}
		}
	}
}
