package scope_test

import (
	"math/rand"
	"slices"
	"testing"

	"reprise/api"
	"reprise/syntax"
)

// Names that are few, so that expressions are full of names that hide and capture others.
var (
	someVars     = []string{"x", "y", "z", "x0", "y0", "x1", "v0", "v1", "h"}
	someHandlers = []string{"h", "g", "h0", "h1", "x"}
	someEffects  = []string{"E", "F", "G"}
	someOps      = []string{"ask", "tell", "x"}
	noNames      = []string{"", "X", "1", "let", "a-b", "x y", "é", "abcdefghijklm"}
)

// parsed returns the expression of a text.
func parsed(t *testing.T, text string) api.Expr {
	t.Helper()
	e, at, err := syntax.ParseExpr(text)
	if err != api.OK {
		t.Fatalf("ParseExpr(%q) = %d, %d", text, at, err)
	}
	return e
}

// shown returns the text of an expression.
func shown(e api.Expr) string {
	text, err := syntax.Show(e)
	if err != api.OK {
		return "not well formed"
	}
	return text
}

func v(x string) api.Expr { return api.Expr{Kind: api.Var, S: x} }

// chain returns an expression within so many functions.
func chain(n int, e api.Expr) api.Expr {
	for range n {
		e = api.Expr{Kind: api.Fun, Names: []string{"a"}, L: []api.Expr{e}}
	}
	return e
}

// bush returns an expression of n nodes, of little depth, whose leaves are all the same.
func bush(n int, leaf api.Expr) api.Expr {
	if n == 1 {
		return leaf
	}
	out := api.Expr{Kind: api.Con, S: "C"}
	for left := n - 1; left > 0; {
		share := left
		if m := api.MaxArgs - len(out.L); m > 1 {
			share = (left + m - 1) / m
		}
		out.L = append(out.L, bush(share, leaf))
		left -= share
	}
	return out
}

// copied returns a copy of any tree; with empty, its empty lists are not nil.
func copied(e api.Expr, empty bool) api.Expr {
	e.Names, e.L, e.Arms = cloned(e.Names, empty), cloned(e.L, empty), cloned(e.Arms, empty)
	for i, part := range e.L {
		e.L[i] = copied(part, empty)
	}
	for i, a := range e.Arms {
		e.Arms[i] = api.Arm{Op: a.Op, Names: cloned(a.Names, empty), Body: copied(a.Body, empty)}
	}
	return e
}

func cloned[T any](l []T, empty bool) []T {
	if len(l) == 0 && !empty {
		return nil
	}
	return append(make([]T, 0, len(l)), l...)
}

// memory returns where the elements of all lists of trees are.
func memory(l ...api.Expr) (places []any) {
	for _, e := range l {
		for i := range e.Names {
			places = append(places, &e.Names[i])
		}
		for i := range e.L {
			places = append(places, &e.L[i])
		}
		for i, a := range e.Arms {
			places = append(places, &e.Arms[i])
			for j := range a.Names {
				places = append(places, &a.Names[j])
			}
			places = append(places, memory(a.Body)...)
		}
		places = append(places, memory(e.L...)...)
	}
	return places
}

// shared reports whether trees share memory with each other.
func shared(l ...api.Expr) bool {
	seen := map[any]bool{}
	for _, place := range memory(l...) {
		if seen[place] {
			return true
		}
		seen[place] = true
	}
	return false
}

// maker makes random expressions.
type maker struct{ *rand.Rand }

func newMaker(seed int64) maker { return maker{rand.New(rand.NewSource(seed))} }

func (m maker) of(l []string) string { return l[m.Intn(len(l))] }

// distinct returns n different strings.
func (m maker) distinct(l []string, n int) (out []string) {
	for _, i := range m.Perm(len(l))[:n] {
		out = append(out, l[i])
	}
	return out
}

// expr returns a well-formed expression of at most a depth.
func (m maker) expr(depth int) api.Expr {
	kinds := []api.Kind{api.Var, api.Var, api.Var, api.Int, api.Unit, api.Drop}
	if depth > 1 {
		kinds = append(kinds, api.Fun, api.App, api.App, api.Let, api.Rec, api.Rec, api.If, api.Prim, api.Con, api.Match, api.Match, api.Do, api.At, api.At, api.Handle, api.Named, api.Named, api.Mask, api.Using, api.Resume)
	}
	e := api.Expr{Kind: kinds[m.Intn(len(kinds))]}
	parts := 1
	switch e.Kind {
	case api.Var, api.Drop:
		e.S, parts = m.of(someVars), 0
	case api.Int:
		e.N, parts = m.Intn(3), 0
	case api.Unit:
		parts = 0
	case api.Fun:
		e.Names = m.distinct(someVars, 1)
	case api.App:
		parts = 2
	case api.Let:
		e.Names, parts = m.distinct(someVars, 1), 2
	case api.Rec:
		e.Names, parts = m.distinct(someVars, 2), 2
	case api.If:
		parts = 3
	case api.Prim:
		e.S, parts = m.of([]string{"+", "=="}), 2
	case api.Con:
		e.S, parts = m.of([]string{"C", "D"}), m.Intn(3)
	case api.Do:
		e.S = m.of(someOps)
	case api.At:
		e.S, e.T = m.of(someHandlers), m.of(someOps)
	case api.Handle:
		e.N, e.S = m.Intn(2), m.of(someEffects)
	case api.Named:
		e.S, e.Names = m.of(someEffects), m.distinct(someHandlers, 1)
	case api.Mask:
		e.S = m.of(someEffects)
	case api.Using:
		e.Names, parts = append(m.distinct(someVars, 1), m.distinct(someEffects, m.Intn(3))...), 3
	case api.Resume:
		e.S = m.of(someVars)
	}
	for range parts {
		e.L = append(e.L, m.expr(depth-1))
	}
	e.Arms = m.arms(e.Kind, depth-1)
	return e
}

// arms returns the arms of a node.
func (m maker) arms(kind api.Kind, depth int) (l []api.Arm) {
	switch kind {
	case api.Match:
		for _, op := range m.distinct([]string{"C", "D", "Nil"}, m.Intn(4)) {
			l = append(l, api.Arm{Op: op, Names: m.distinct(someVars, m.Intn(4)), Body: m.expr(depth)})
		}
	case api.Handle, api.Named:
		l = append(l, api.Arm{Op: "return", Names: m.distinct(someVars, 1), Body: m.expr(depth)})
		for _, op := range m.distinct(someOps, m.Intn(3)) {
			l = append(l, api.Arm{Op: op, Names: m.distinct(someVars, 2), Body: m.expr(depth)})
		}
	}
	return l
}

// spoil changes a node, which may be well formed still.
func (m maker) spoil(e *api.Expr) {
	parts := partsOf(e)
	if len(parts) > 0 && m.Intn(3) > 0 {
		m.spoil(parts[m.Intn(len(parts))])
		return
	}
	switch m.Intn(6) {
	case 0:
		e.Kind = api.Kind(m.Intn(24) - 2)
	case 1:
		e.N = m.Intn(5) - 2
	case 2:
		e.S = m.of(slices.Concat(noNames, someVars, someEffects))
	case 3:
		e.T = m.of(slices.Concat(noNames, someVars))
	case 4:
		e.Names = append(slices.Clone(e.Names), m.of(slices.Concat(noNames, someVars)))
	case 5:
		e.L = append(slices.Clone(e.L), v("x"))
	}
}

// renamed returns an expression that is equal to e up to renaming: each name that is bound gets one of a few names, if that changes nothing else.
func (m maker) renamed(e api.Expr) api.Expr {
	e = copied(e, false)
	for _, p := range everyNode(&e) {
		for _, s := range sites(p) {
			before := copied(e, false)
			to := m.of(someVars)
			if s.handler {
				to = m.of(someHandlers)
			}
			for _, part := range s.parts {
				modelRename(part, s.handler, *s.name, to)
			}
			*s.name = to
			if syntax.Check(e) != api.OK || !modelAlpha(before, e) {
				// The lists of e stay where they are, as sites are pointers into them.
				restore(&e, before)
			}
		}
	}
	return e
}

// restore sets the names of an expression to those of another one of the same form.
func restore(e *api.Expr, from api.Expr) {
	e.S = from.S
	copy(e.Names, from.Names)
	for i := range e.L {
		restore(&e.L[i], from.L[i])
	}
	for i := range e.Arms {
		copy(e.Arms[i].Names, from.Arms[i].Names)
		restore(&e.Arms[i].Body, from.Arms[i].Body)
	}
}
