package syntax_test

import (
	"math/rand"
	"reflect"
	"slices"
	"testing"

	"reprise/api"
	"reprise/lexer"
	"reprise/syntax"
)

// P2.4: what is printed is parsed as the same tree.
func TestRoundTrip(t *testing.T) {
	m := newMaker(7)
	for range 10000 {
		e := m.expr(7)
		s, err := syntax.Show(e)
		if err != api.OK {
			t.Fatalf("Show: %d", err)
		}
		wantExpr(t, s, e)
		x := m.typ(5, false)
		s, err = syntax.ShowType(x)
		if y, at, err2 := syntax.ParseType(s); err != api.OK || !reflect.DeepEqual(x, y) || at != 0 || err2 != api.OK {
			t.Fatalf("%q, %d: %v, %d, %d; want %v", s, err, y, at, err2, x)
		}
	}
	for range 3000 {
		p := m.program()
		s, e := syntax.Print(p)
		if q, at, e2 := syntax.Parse(s); e != api.OK || !reflect.DeepEqual(p, q) || at != 0 || e2 != api.OK {
			t.Fatalf("%q, %d: %v, %d, %d; want %v", s, e, q, at, e2, p)
		}
	}
}

// P2.4: what is parsed and printed is, parsed and printed again, the same text.
func TestPrintedAgain(t *testing.T) {
	m := newMaker(8)
	accepted := 0
	for range 4000 {
		text := m.spread(m.jumbled(split(modelExpr(m.expr(3), "expr"))))
		if e, _, err := syntax.ParseExpr(text); err == api.OK {
			accepted++
			s, err := syntax.Show(e)
			again, at, err2 := syntax.ParseExpr(s)
			s2, err3 := syntax.Show(again)
			if err != api.OK || at != 0 || err2 != api.OK || err3 != api.OK || s != s2 || !syntax.Same(e, again) {
				t.Fatalf("%q: %q, %q", text, s, s2)
			}
		}
		text = m.spread(m.jumbled(split(modelType(m.typ(3, false), "type"))))
		if x, _, err := syntax.ParseType(text); err == api.OK {
			s, err := syntax.ShowType(x)
			again, at, err2 := syntax.ParseType(s)
			s2, err3 := syntax.ShowType(again)
			if err != api.OK || at != 0 || err2 != api.OK || err3 != api.OK || s != s2 || !syntax.SameType(x, again) {
				t.Fatalf("%q: %q, %q", text, s, s2)
			}
		}
		text = m.spread(m.jumbled(split(slices.Concat(modelLines(m.program())...))))
		if p, _, err := syntax.Parse(text); err == api.OK {
			s, err := syntax.Print(p)
			again, at, err2 := syntax.Parse(s)
			s2, err3 := syntax.Print(again)
			if err != api.OK || at != 0 || err2 != api.OK || err3 != api.OK || s != s2 {
				t.Fatalf("%q: %q, %q", text, s, s2)
			}
		}
	}
	if accepted < 400 {
		t.Errorf("only %d texts were accepted", accepted)
	}
}

// P2.5: blanks, comments and parentheses that are not needed change nothing.
func TestLayOut(t *testing.T) {
	m := newMaker(9)
	for range 5000 {
		e := m.expr(4)
		l := split(modelExpr(e, "expr"))
		wantExpr(t, " "+m.spread(l), e)
		wantExpr(t, m.spread(tokens("(", l, ")")), e)
		s, _ := syntax.Show(e)
		wantExpr(t, "(("+s+"))", e)
		x := m.typ(4, false)
		for _, l := range [][]string{modelType(x, "type"), tokens("(", modelType(x, "type"), ")")} {
			text := "\n" + m.spread(split(l))
			if y, at, err := syntax.ParseType(text); !reflect.DeepEqual(x, y) || at != 0 || err != api.OK {
				t.Fatalf("%q: %v, %d, %d", text, y, at, err)
			}
		}
	}
	for range 1000 {
		p := m.program()
		text := "#\n" + m.spread(split(slices.Concat(modelLines(p)...)))
		if q, at, err := syntax.Parse(text); !reflect.DeepEqual(p, q) || at != 0 || err != api.OK {
			t.Fatalf("%q: %v, %d, %d", text, q, at, err)
		}
	}
}

// looseTokens are the tokens of an expression with all parts in parentheses, some more than once.
func (m maker) looseTokens(e api.Expr, whole bool) []string {
	e = copied(e)
	stand := map[string][]string{}
	hold := func(x api.Expr) api.Expr {
		name := "hole" + lexer.Digits(len(stand))
		stand[name] = m.looseTokens(x, false)
		return v(name)
	}
	for i := range e.L {
		e.L[i] = hold(e.L[i])
	}
	for i := range e.Arms {
		e.Arms[i].Body = hold(e.Arms[i].Body)
	}
	var out []string
	for _, s := range split(modelExpr(e, "expr")) {
		if l, ok := stand[s]; ok {
			out = append(out, l...)
		} else {
			out = append(out, s)
		}
	}
	for range 1 + m.Intn(2) {
		if !whole {
			out = tokens("(", out, ")")
		}
	}
	return out
}

// P2.5: an expression in parentheses is the same within another one.
func TestLooseParentheses(t *testing.T) {
	m := newMaker(10)
	for range 3000 {
		e := m.expr(3)
		var b []byte
		for _, s := range m.looseTokens(e, true) {
			b = append(append(b, s...), ' ')
		}
		wantExpr(t, string(b), e)
	}
}

// P2.6: parts of a well-formed expression are well formed, and make up its size and its depth.
func TestParts(t *testing.T) {
	m := newMaker(11)
	for range 10000 {
		e := m.expr(6)
		size, depth := 1, 1
		parts := slices.Clone(e.L)
		for _, a := range e.Arms {
			parts = append(parts, a.Body)
		}
		for _, x := range parts {
			if err := syntax.Check(x); err != api.OK || syntax.Size(x) == 0 {
				t.Fatalf("Check of a part = %d: %v", err, x)
			}
			size += syntax.Size(x)
			depth = max(depth, 1+syntax.Depth(x))
		}
		if syntax.Size(e) != size || syntax.Depth(e) != depth {
			t.Fatalf("size %d, depth %d; want %d, %d: %v", syntax.Size(e), syntax.Depth(e), size, depth, e)
		}
	}
}

// P0.6, R8: trees that contain themselves have no end, and are refused.
func TestEndless(t *testing.T) {
	l := exprs(unit(), unit())
	l[0] = app(unit(), unit())
	l[0].L = l
	body := arms(arm("C", unit()))
	body[0].Body = match(unit())
	body[0].Body.Arms = body
	for _, e := range exprs(l[0], body[0].Body) {
		if syntax.Same(e, e) && syntax.Same(e, unit()) {
			t.Errorf("Same of what has no end")
		}
		wantCheck(t, "endless", e, api.ErrSize)
		if x, err := syntax.Whole(api.Program{Defs: []api.Def{{Name: "a", Body: e}}, Main: unit()}); err != api.ErrSize || !syntax.Same(x, api.Expr{}) {
			t.Errorf("Whole = %d", err)
		}
	}
	x := []api.Type{data("A")}
	x[0].L = x
	p := api.Program{Data: []api.Data{{Name: "A", Cons: []api.Cons{{Name: "C", Args: x}}}}, Main: unit()}
	if syntax.SameType(x[0], x[0]) && syntax.SameType(x[0], tint) {
		t.Errorf("SameType of what has no end")
	}
	if syntax.CheckType(x[0]) != api.ErrSize || syntax.CheckProgram(p) != api.ErrSize {
		t.Errorf("CheckType = %d, CheckProgram = %d", syntax.CheckType(x[0]), syntax.CheckProgram(p))
	}
	deep := chain(1 << 16)
	if !syntax.Same(deep, chain(1<<16)) || syntax.Same(deep, chain(1<<16-1)) || syntax.Check(deep) != api.ErrSize {
		t.Errorf("deep expressions")
	}
}

// filled fills a tree with anything.
func filled(r *rand.Rand, x reflect.Value, depth int) {
	m := maker{r}
	switch x.Kind() {
	case reflect.Int:
		x.SetInt(int64(append(someNs, 3, 9, 17, r.Int())[r.Intn(len(someNs)+4)]))
	case reflect.String:
		x.SetString(m.anyString())
	case reflect.Bool:
		x.SetBool(r.Intn(2) == 0)
	case reflect.Slice:
		n := r.Intn(4)
		if depth <= 0 {
			n = 0
		}
		x.Set(reflect.MakeSlice(x.Type(), n, n))
		for i := range n {
			filled(r, x.Index(i), depth-1)
		}
	case reflect.Struct:
		for i := range x.NumField() {
			filled(r, x.Field(i), depth)
		}
	}
}

// P0.6, R2, R4, R8: any trees are accepted and left as they are; equal ones give equal results, with zeros beside an error.
func TestAnyTrees(t *testing.T) {
	r := rand.New(rand.NewSource(12))
	for range 1500 {
		var e api.Expr
		var x api.Type
		var p api.Program
		filled(r, reflect.ValueOf(&e).Elem(), 4)
		filled(r, reflect.ValueOf(&x).Elem(), 4)
		filled(r, reflect.ValueOf(&p).Elem(), 3)
		e2, x2, p2 := copied(e), copied(x), copied(p)
		for _, f := range []func(e api.Expr, x api.Type, p api.Program) []any{
			func(e api.Expr, x api.Type, p api.Program) []any {
				return []any{syntax.Check(e), syntax.CheckType(x), syntax.CheckProgram(p), syntax.Size(e), syntax.Depth(e)}
			},
			func(e api.Expr, x api.Type, p api.Program) []any {
				s, err := syntax.Show(e)
				s2, err2 := syntax.ShowType(x)
				return []any{s, err, s2, err2, syntax.Same(e, p.Main), syntax.SameType(x, tint)}
			},
			func(e api.Expr, x api.Type, p api.Program) []any {
				s, err := syntax.Print(p)
				w, err2 := syntax.Whole(p)
				if err != api.OK && s != "" || err2 != api.OK && !reflect.DeepEqual(w, api.Expr{}) {
					t.Fatalf("%q, %d; %v, %d", s, err, w, err2)
				}
				return []any{s, err, w, err2}
			},
		} {
			if a, b := f(e, x, p), f(e2, x2, p2); !reflect.DeepEqual(a, b) {
				t.Fatalf("%v and %v: %v, %v, %v", a, b, e, x, p)
			}
		}
		if !reflect.DeepEqual(e, e2) || !reflect.DeepEqual(x, x2) || !reflect.DeepEqual(p, p2) {
			t.Fatalf("changed: %v, %v, %v", e, x, p)
		}
	}
}

// P0.6, R2, R8: any texts are accepted; equal ones give equal results, with zeros beside an error.
func TestAnyTexts(t *testing.T) {
	m := newMaker(13)
	for range 20000 {
		text := ""
		if m.Intn(3) == 0 {
			b := make([]byte, m.Intn(20))
			m.Read(b)
			text = string(b)
		} else {
			var l []string
			for range m.Intn(30) {
				l = append(l, m.of(vocabulary()))
			}
			text = m.spread(l)
		}
		e, at, err := syntax.ParseExpr(text)
		x, at2, err2 := syntax.ParseType(text)
		p, at3, err3 := syntax.Parse(text)
		again := func() []any {
			e, at, err := syntax.ParseExpr(text)
			x, at2, err2 := syntax.ParseType(text)
			p, at3, err3 := syntax.Parse(text)
			return []any{e, at, err, x, at2, err2, p, at3, err3}
		}()
		if !reflect.DeepEqual([]any{e, at, err, x, at2, err2, p, at3, err3}, again) {
			t.Fatalf("%q: results differ", text)
		}
		if err != api.OK && !reflect.DeepEqual(e, api.Expr{}) || err2 != api.OK && !reflect.DeepEqual(x, api.Type{}) || err3 != api.OK && !reflect.DeepEqual(p, api.Program{}) {
			t.Fatalf("%q: a tree beside an error", text)
		}
		for _, c := range []struct {
			at  int
			err api.Errno
		}{{at, err}, {at2, err2}, {at3, err3}} {
			if c.at < 0 || c.at > len(text) || c.err != api.ErrText && c.at != 0 {
				t.Fatalf("%q: %d, %d", text, c.at, c.err)
			}
		}
	}
}

// P2.3, R4: results share no memory with an argument, nor two of their lists with each other, and empty lists are nil.
func TestMemory(t *testing.T) {
	m := newMaker(14)
	for range 2000 {
		p := m.program()
		kept := copied(p)
		whole, _ := syntax.Whole(p)
		before, _ := places(p)
		after, _ := places(whole)
		all := slices.Concat(before, after)
		slices.Sort(all)
		if len(slices.Compact(slices.Clone(all))) != len(all) {
			t.Fatalf("Whole shares memory: %v", p)
		}
		s, _ := syntax.Print(p)
		q, _, _ := syntax.Parse(s)
		parsed, empty := places(q)
		slices.Sort(parsed)
		if len(slices.Compact(slices.Clone(parsed))) != len(parsed) || empty {
			t.Fatalf("Parse shares memory, or has an empty list that is not nil: %q", s)
		}
		if !reflect.DeepEqual(p, kept) {
			t.Fatalf("changed: %v", p)
		}
	}
	for _, text := range []string{"C", "f x", "match x { A -> 1 }", "using x [] = 1 close 2 in 3", "C[D, fun x -> x]", "handle E 1 { return x -> x; op x k -> k }"} {
		e, _, err := syntax.ParseExpr(text)
		if _, empty := places(e); empty || err != api.OK {
			t.Errorf("%q: %d, or an empty list that is not nil", text, err)
		}
	}
	for _, text := range []string{"List", "Int -> Int", "Int -> <> Int", "Int -> <| r1> List", "A (B C) D"} {
		x, _, err := syntax.ParseType(text)
		if _, empty := places(x); empty || err != api.OK {
			t.Errorf("%q: %d, or an empty list that is not nil", text, err)
		}
	}
}
