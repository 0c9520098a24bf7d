package rows_test

import (
	"slices"
	"testing"

	"reprise/api"
	"reprise/rows"
	"reprise/syntax"
)

// P5.1, P5.2, P5.4: types as the model has them.
func TestTypesAgainstModel(t *testing.T) {
	m := newMaker(1)
	for range 20000 {
		x, y := m.typ(5, 4), m.typ(2, 2)
		if got, e := rows.Norm(x); e != api.OK || !same(got, modelNormal(x)) {
			t.Fatalf("Norm(%s) = %s, %d", shown(x), shown(got), e)
		}
		if got := rows.Equal(x, y); got != modelEqual(x, y) {
			t.Fatalf("Equal(%s, %s) = %t", shown(x), shown(y), got)
		}
		types, tails, e := rows.Vars(x)
		wantTypes, wantTails := modelVars(x)
		if e != api.OK || !slices.Equal(types, wantTypes) || !slices.Equal(tails, wantTails) {
			t.Fatalf("Vars(%s) = %v, %v, %d", shown(x), types, tails, e)
		}
		at := func(l []int) func(int) int { return func(n int) int { return slices.Index(l, n) } }
		want := modelNormal(renumbered(x, at(wantTypes), at(wantTails)))
		if got, e := rows.Canon(x); e != api.OK || !same(got, want) {
			t.Fatalf("Canon(%s) = %s, %d", shown(x), shown(got), e)
		}
		s := m.solution(1 + m.Intn(4))
		if got, e := rows.Apply(s, x); e != api.OK || !same(got, modelApply(s, x)) {
			t.Fatalf("Apply(%s, %s) = %s, %d", shownSubst(s), shown(x), shown(got), e)
		}
	}
}

// P5.2: substitutions are valid or not as the chapter says.
func TestSubstsAgainstModel(t *testing.T) {
	m := newMaker(2)
	found := map[api.Errno]int{}
	for range 10000 {
		s := m.solution(1 + m.Intn(3))
		for range m.Intn(3) {
			i := m.Intn(len(s.Types))
			switch m.Intn(6) {
			case 0:
				s.Types[i].N += m.Intn(5) - 2
			case 1:
				s.Rows[i].N += m.Intn(5) - 2
			case 2:
				s.Types[i].T = m.typ(3, 6)
			case 3:
				s.Rows[i].R = m.row(6)
			case 4:
				l := malformed()[[]api.Errno{api.ErrName, api.ErrArity}[m.Intn(2)]]
				s.Types[i].T = l[m.Intn(len(l))]
			case 5:
				s.Rows[i].R.Labels = append(s.Rows[i].R.Labels, api.Label{S: "x"})
			}
		}
		got, want := rows.CheckSubst(s), modelCheckSubst(s)
		if got != want {
			t.Fatalf("CheckSubst(%s) = %d; want %d", shownSubst(s), got, want)
		}
		found[got]++
	}
	for _, e := range []api.Errno{api.OK, api.ErrArg, api.ErrName, api.ErrArity} {
		if found[e] < 200 {
			t.Errorf("error %d came up %d times", e, found[e])
		}
	}
}

// modelCheckSubst returns the first error of a substitution that is not too large.
func modelCheckSubst(s api.Subst) api.Errno {
	var l []api.Type
	for i, b := range s.Types {
		if b.N < 0 || i > 0 && b.N <= s.Types[i-1].N {
			return api.ErrArg
		}
		if e := syntax.CheckType(b.T); e != api.OK {
			return e
		}
		l = append(l, b.T)
	}
	for i, b := range s.Rows {
		if b.N < 0 || i > 0 && b.N <= s.Rows[i-1].N {
			return api.ErrArg
		}
		if e := syntax.CheckType(rowType(b.R)); e != api.OK {
			return e
		}
		l = append(l, rowType(b.R))
	}
	types, tails := modelVars(l...)
	for _, b := range s.Types {
		if slices.Contains(types, b.N) {
			return api.ErrArg
		}
	}
	for _, b := range s.Rows {
		if slices.Contains(tails, b.N) {
			return api.ErrArg
		}
	}
	return api.OK
}

// P5.3, P5.5: solutions as the model has them; they are valid, they solve the equations, and applied twice they are as applied once.
func TestSolveAgainstModel(t *testing.T) {
	m := newMaker(3)
	found := map[api.Errno]int{}
	fresh := 0
	for i := range 30000 {
		l := m.pairs()
		switch i % 4 {
		case 0:
			l = m.rowPairs()
		case 1:
			l, _ = m.solvable()
		case 2:
			l, _ = m.solvable()
			m.spoil(&l[m.Intn(len(l))].A, 4)
		}
		got, e := rows.Solve(l)
		want, f := modelSolve(l)
		if e != f || !same(got, want) {
			t.Fatalf("Solve(%s) = %s, %d; want %s, %d", shownPairs(l), shownSubst(got), e, shownSubst(want), f)
		}
		found[e]++
		if e != api.OK {
			continue
		}
		if f := rows.CheckSubst(got); f != api.OK {
			t.Fatalf("Solve(%s) = %s: %d", shownPairs(l), shownSubst(got), f)
		}
		var all []api.Type
		for _, p := range l {
			a, e := rows.Apply(got, p.A)
			b, f := rows.Apply(got, p.B)
			again, g := rows.Apply(got, a)
			if !rows.Equal(a, b) || !same(a, b) || !same(a, again) || e != api.OK || f != api.OK || g != api.OK {
				t.Fatalf("Solve(%s) = %s: %s, %s", shownPairs(l), shownSubst(got), shown(a), shown(b))
			}
			all = append(all, p.A, p.B)
		}
		_, tails := modelVars(all...)
		if slices.ContainsFunc(got.Rows, func(b api.RowBind) bool { return b.R.Tail >= 0 && !slices.Contains(tails, b.R.Tail) }) {
			fresh++
		}
	}
	if found[api.OK] < 10000 || found[api.ErrType] < 5000 || fresh < 1000 {
		t.Errorf("errors %v, %d with fresh variables", found, fresh)
	}
}

// P5.6: where a valid substitution solves equations, what it makes of their types is an instance of what Solve makes of them.
func TestMostGeneral(t *testing.T) {
	m := newMaker(4)
	for range 15000 {
		l, s := m.solvable()
		if e := rows.CheckSubst(s); e != api.OK {
			t.Fatalf("%s: %d", shownSubst(s), e)
		}
		got, e := rows.Solve(l)
		if e != api.OK {
			t.Fatalf("Solve(%s) = %d, but %s solves it", shownPairs(l), e, shownSubst(s))
		}
		var general, special []api.Type
		for _, p := range l {
			a, e := rows.Apply(s, p.A)
			b, f := rows.Apply(s, p.B)
			if !rows.Equal(a, b) || e != api.OK || f != api.OK {
				t.Fatalf("%s is no solution of %s", shownSubst(s), shownPairs(l))
			}
			x, _ := rows.Apply(got, p.A)
			y, _ := rows.Apply(got, p.B)
			general, special = append(general, x, y), append(special, a, b)
		}
		if _, is, e := rows.Instance(together(general...), together(special...)); !is || e != api.OK {
			t.Fatalf("Solve(%s) = %s: not as general as %s", shownPairs(l), shownSubst(got), shownSubst(s))
		}
	}
}

// P5.7, P5.9, P5.10: the order of equations, of their sides and of labels makes no difference, and numbers of variables make none to whether there is a solution.
func TestSolveOrders(t *testing.T) {
	m := newMaker(5)
	solved := 0
	for i := range 15000 {
		l, _ := m.solvable()
		if i%3 == 0 {
			m.spoil(&l[m.Intn(len(l))].B, 4)
		}
		want, e := rows.Solve(l)
		if e == api.OK {
			solved++
		}
		other := copied(l, false)
		for i, p := range other {
			other[i] = api.Pair{A: m.shuffled(p.A), B: m.shuffled(p.B)}
			if m.Intn(2) == 0 {
				other[i].A, other[i].B = other[i].B, other[i].A
			}
		}
		m.Shuffle(len(other), func(i, j int) { other[i], other[j] = other[j], other[i] })
		if got, f := rows.Solve(other); f != e || !same(got, want) {
			t.Fatalf("Solve(%s) = %s, %d, but Solve(%s) = %s, %d", shownPairs(l), shownSubst(want), e, shownPairs(other), shownSubst(got), f)
		}
		types, tails := m.Perm(20), m.Perm(20)
		for i, p := range other {
			to := func(l []int) func(int) int { return func(n int) int { return l[n] * 1000 } }
			other[i] = api.Pair{A: renumbered(p.A, to(types), to(tails)), B: renumbered(p.B, to(types), to(tails))}
		}
		got, f := rows.Solve(other)
		model, g := modelSolve(other)
		if f != e || f != g || !same(got, model) {
			t.Fatalf("Solve(%s) = %s, %d; want %s, %d", shownPairs(other), shownSubst(got), f, shownSubst(model), g)
		}
	}
	if solved < 10000 {
		t.Errorf("only %d have a solution", solved)
	}
}

// P5.4, P5.8: instances as the model has them; what they are by makes the one type of the other.
func TestInstancesAgainstModel(t *testing.T) {
	m := newMaker(6)
	found := 0
	for i := range 20000 {
		general, special := m.typ(4, 3), m.typ(4, 3)
		if i%3 > 0 {
			special = m.shuffled(modelApply(m.solution(3), general))
		}
		if i%3 == 2 {
			m.spoil(&special, 3)
		}
		s, is, e := rows.Instance(general, special)
		want, wantIs := modelInstance(general, special)
		if is != wantIs || !same(s, want) || e != api.OK {
			t.Fatalf("Instance(%s, %s) = %s, %t, %d; want %s, %t", shown(general), shown(special), shownSubst(s), is, e, shownSubst(want), wantIs)
		}
		if !is {
			continue
		}
		found++
		if !modelEqual(modelApply(s, general), special) {
			t.Fatalf("Instance(%s, %s) = %s", shown(general), shown(special), shownSubst(s))
		}
	}
	if found < 7000 || found > 18000 {
		t.Errorf("%d instances", found)
	}
}

// P5.8: instances of instances are instances; types that are instances of each other are those of one canonical form.
func TestInstances(t *testing.T) {
	m := newMaker(7)
	isInstance := func(general, special api.Type) bool {
		_, is, e := rows.Instance(general, special)
		if e != api.OK {
			t.Fatalf("Instance(%s, %s) = %d", shown(general), shown(special), e)
		}
		return is
	}
	both := 0
	for i := range 10000 {
		x := m.typ(4, 3)
		y, e := rows.Apply(m.solution(1+m.Intn(3)), x)
		z, f := rows.Apply(m.solution(1+m.Intn(6)), y)
		if e != api.OK || f != api.OK || !isInstance(x, x) || !isInstance(x, y) || !isInstance(y, z) || !isInstance(x, z) {
			t.Fatalf("%s, %s, %s", shown(x), shown(y), shown(z))
		}
		w := m.typ(2, 3)
		x = m.typ(2, 3)
		if i%3 == 0 {
			types, tails := m.Perm(3), m.Perm(3)
			w = m.shuffled(renumbered(x, func(n int) int { return types[n] }, func(n int) int { return tails[n] }))
		}
		a, e := rows.Canon(x)
		b, f := rows.Canon(w)
		each := isInstance(x, w) && isInstance(w, x)
		if e != api.OK || f != api.OK || each != same(a, b) {
			t.Fatalf("%s, %s: instances of each other: %t", shown(x), shown(w), each)
		}
		if each {
			both++
		}
	}
	if both < 3000 || both > 9000 {
		t.Errorf("%d pairs are instances of each other", both)
	}
}

// P5.9: the order of labels makes no difference to a type, nor to a substitution.
func TestLabelOrder(t *testing.T) {
	m := newMaker(8)
	for range 10000 {
		x := m.typ(5, 3)
		y := m.shuffled(x)
		s := m.solution(3)
		r := copied(s, false)
		for i := range r.Types {
			r.Types[i].T = m.shuffled(r.Types[i].T)
			r.Rows[i].R = m.shuffled(rowType(r.Rows[i].R)).Row
		}
		a, e := rows.Norm(x)
		b, f := rows.Norm(y)
		if !rows.Equal(x, y) || !same(a, b) || e != api.OK || f != api.OK {
			t.Fatalf("%s, %s: %s, %s", shown(x), shown(y), shown(a), shown(b))
		}
		a, e = rows.Canon(x)
		b, f = rows.Canon(y)
		if !same(a, b) || e != api.OK || f != api.OK {
			t.Fatalf("%s, %s: %s, %s", shown(x), shown(y), shown(a), shown(b))
		}
		types, tails, _ := rows.Vars(x)
		otherTypes, otherTails, _ := rows.Vars(y)
		if !slices.Equal(types, otherTypes) || !slices.Equal(tails, otherTails) {
			t.Fatalf("%s, %s: %v, %v", shown(x), shown(y), types, otherTypes)
		}
		a, e = rows.Apply(s, x)
		b, f = rows.Apply(r, y)
		if !same(a, b) || e != f || rows.CheckSubst(s) != rows.CheckSubst(r) {
			t.Fatalf("%s, %s: %s, %s", shown(x), shown(y), shown(a), shown(b))
		}
		s1, is1, _ := rows.Instance(x, a)
		s2, is2, _ := rows.Instance(y, m.shuffled(a))
		if !is1 || !is2 || !same(s1, s2) {
			t.Fatalf("%s, %s: %s, %s", shown(x), shown(y), shownSubst(s1), shownSubst(s2))
		}
	}
}

// odd returns any tree of a type.
func (m maker) odd(depth int) api.Type {
	x := api.Type{Kind: api.TypeKind(m.Intn(9) - 1), N: []int{0, 0, 0, 0, 1, -1, api.MaxInt, api.MaxInt + 1}[m.Intn(8)], S: []string{"", "", "", "a", "A", "Int", "x y"}[m.Intn(7)]}
	if x.Kind == api.TFun || m.Intn(5) == 0 {
		x.Row = open([]int{-1, -1, 0, 1, -2, api.MaxInt, api.MaxInt + 1}[m.Intn(7)])
		for range m.Intn(3) {
			x.Row.Labels = append(x.Row.Labels, api.Label{S: []string{"A", "B", "C", "b", ""}[m.Intn(5)], N: []int{0, 0, 0, 1, -1}[m.Intn(5)]})
		}
	}
	if n := []int{0, 0, 0, 0, 0, 2, 1, 0, 3}[x.Kind+1]; depth > 0 {
		for range n {
			x.L = append(x.L, m.odd(depth-1))
		}
	}
	return x
}

// results are what all functions return.
type results struct {
	Norm, Applied, Canon     api.Type
	Equal, Is                bool
	Types, Rows              []int
	Solved, Unified, Matched api.Subst
	Errors                   []api.Errno
}

func resultsOf(x, y api.Type, l []api.Pair, s api.Subst) (r results) {
	var e [8]api.Errno
	r.Norm, e[0] = rows.Norm(x)
	r.Equal = rows.Equal(x, y)
	r.Types, r.Rows, e[1] = rows.Vars(x)
	e[2] = rows.CheckSubst(s)
	r.Applied, e[3] = rows.Apply(s, x)
	r.Solved, e[4] = rows.Solve(l)
	r.Unified, e[5] = rows.Unify(x, y)
	r.Matched, r.Is, e[6] = rows.Instance(x, y)
	r.Canon, e[7] = rows.Canon(y)
	r.Errors = e[:]
	return r
}

// P0.6, R3, R4, R8: any arguments are accepted and not changed, equal ones give equal results, with nil for empty lists or not, and results are new memory.
func TestAnyArguments(t *testing.T) {
	m := newMaker(9)
	for i := range 8000 {
		x, y := m.odd(3), m.odd(3)
		l, s := m.solvable()
		if i%2 == 0 {
			x, y = m.typ(4, 3), m.typ(4, 3)
		}
		if i%4 == 0 {
			y = m.shuffled(modelApply(s, x))
		}
		if i%3 == 0 {
			l[m.Intn(len(l))].A = x
			s.Types[0].T = y
		}
		before := resultsOf(x, y, l, s)
		kept := copied(l, false)
		after := resultsOf(copied(x, true), copied(y, true), copied(l, true), copied(s, true))
		if !same(before, after) || !same(l, kept) {
			t.Fatalf("%s, %s; %s; %s: %v, %v", shown(x), shown(y), shownPairs(l), shownSubst(s), before, after)
		}
		for _, r := range []any{before.Norm, before.Applied, before.Canon, before.Solved, before.Unified, before.Matched, before.Types, before.Rows} {
			if shares(r, x, y, l, s) {
				t.Fatalf("%v shares memory with itself or with arguments", r)
			}
		}
		if x2, y2, l2, s2 := copied(x, false), copied(y, false), copied(l, false), copied(s, false); !same(resultsOf(x2, y2, l2, s2), before) || !same(x, x2) || !same(y, y2) || !same(l, l2) || !same(s, s2) {
			t.Fatal("arguments are changed")
		}
	}
}
