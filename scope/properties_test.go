package scope_test

import (
	"reflect"
	"slices"
	"testing"

	"reprise/api"
	"reprise/scope"
	"reprise/syntax"
)

// must returns a result that has no error.
func must[T any](t *testing.T) func(x T, err api.Errno) T {
	return func(x T, err api.Errno) T {
		t.Helper()
		if err != api.OK {
			t.Fatalf("error %d", err)
		}
		return x
	}
}

// value returns an expression that can take the place of a variable in another one.
func (m maker) value(e api.Expr, x string) api.Expr {
	value := m.expr(1 + m.Intn(4))
	for _, n := range everyNode(&e) {
		if n.Kind != api.Var && occurs(n, false, x) {
			return v(m.of(someVars))
		}
	}
	return value
}

// union returns the names of lists, each once, ascending, without one.
func union(without string, lists ...[]string) []string {
	l := slices.DeleteFunc(slices.Concat(lists...), func(x string) bool { return x == without })
	slices.Sort(l)
	return slices.Compact(l)
}

// P3.1, P3.2, P3.6: as the models have it.
func TestAgainstModels(t *testing.T) {
	m := newMaker(1)
	list, number, tree := must[[]string](t), must[int](t), must[api.Expr](t)
	for range 6000 {
		e := m.expr(1 + m.Intn(6))
		free, hands := list(scope.Free(e)), list(scope.Handlers(e))
		if !slices.Equal(free, modelFree(e, false)) || !slices.Equal(hands, modelFree(e, true)) || !slices.Equal(list(scope.Names(e)), modelNames(e)) {
			t.Fatalf("%s: %v, %v", shown(e), free, hands)
		}
		if closed, err := scope.Closed(e); closed != (len(free)+len(hands) == 0) || err != api.OK {
			t.Fatalf("%s: Closed = %t, %d", shown(e), closed, err)
		}
		for _, x := range append(someVars, "other") {
			if n := number(scope.Uses(e, x)); n != modelUses(&e, false, x) || (n > 0) != slices.Contains(free, x) {
				t.Fatalf("%s: Uses of %s = %d", shown(e), x, n)
			}
		}
		if got, want := tree(scope.Canon(e)), modelCanon(e); !syntax.Same(got, want) {
			t.Fatalf("%s: Canon = %s; want %s", shown(e), shown(got), shown(want))
		}
		if got, want := tree(scope.Unique(e)), modelUnique(e); !syntax.Same(got, want) {
			t.Fatalf("%s: Unique = %s; want %s", shown(e), shown(got), shown(want))
		}
	}
}

// P3.3: as the model has it.
func TestFreshAgainstModel(t *testing.T) {
	m := newMaker(2)
	bases := []string{"x", "x1", "x12", "x9y", "_", "_0", "abcdefghijkl", "abcdefghijk1", "abcdefghij12", "a12345678901", "abcdefgh1jkl"}
	for range 3000 {
		base := m.of(bases)
		var used []string
		for range m.Intn(130) {
			used = append(used, modelFresh(m.of(bases), used))
		}
		used = m.distinct(used, m.Intn(len(used)+1))
		if got, err := scope.Fresh(base, used); got != modelFresh(base, used) || err != api.OK {
			t.Fatalf("Fresh(%s, %v) = %s, %d", base, used, got, err)
		}
	}
}

// P3.4, P3.7, P3.11: as the model has it, with the free names and the size that the theorems say.
func TestSubstAgainstModel(t *testing.T) {
	m := newMaker(3)
	list, number, tree := must[[]string](t), must[int](t), must[api.Expr](t)
	replaced := 0
	for range 12000 {
		e, x := m.expr(1+m.Intn(6)), m.of(someVars)
		value := m.value(e, x)
		got := tree(scope.Subst(e, x, value))
		if want := substituted(e, x, value); !syntax.Same(got, want) {
			t.Fatalf("Subst(%s, %s, %s) = %s; want %s", shown(e), x, shown(value), shown(got), shown(want))
		}
		uses := number(scope.Uses(e, x))
		if syntax.Size(got) != syntax.Size(e)+uses*(syntax.Size(value)-1) {
			t.Fatalf("Subst(%s, %s, %s): size %d", shown(e), x, shown(value), syntax.Size(got))
		}
		free, hands := list(scope.Free(e)), list(scope.Handlers(e))
		if uses > 0 {
			replaced++
			free = union("", union(x, free), list(scope.Free(value)))
			hands = union("", hands, list(scope.Handlers(value)))
		} else if !syntax.Same(got, e) {
			t.Fatalf("Subst(%s, %s, %s) = %s", shown(e), x, shown(value), shown(got))
		}
		if !slices.Equal(list(scope.Free(got)), free) || !slices.Equal(list(scope.Handlers(got)), hands) {
			t.Fatalf("Subst(%s, %s, %s) = %s: free names", shown(e), x, shown(value), shown(got))
		}
		if !syntax.Same(tree(scope.Subst(e, x, v(x))), e) {
			t.Fatalf("Subst(%s, %s, %s) changes it", shown(e), x, x)
		}
	}
	if replaced < 2000 {
		t.Errorf("only %d substitutions replaced something", replaced)
	}
}

// P3.8.
func TestSubstitutionsCommute(t *testing.T) {
	m := newMaker(4)
	answer := must[bool](t)
	for tried := 0; tried < 4000; {
		xy := m.distinct(someVars, 2)
		x, y := xy[0], xy[1]
		e := m.expr(1 + m.Intn(5))
		value, w := m.expr(1+m.Intn(3)), m.expr(1+m.Intn(3))
		if m.Intn(2) == 0 {
			value, w = v(m.of(someVars)), v(m.of(someVars))
		}
		if slices.Contains(modelFree(w, false), x) {
			continue
		}
		first, e1 := scope.Subst(e, x, value)
		inValue, e2 := scope.Subst(value, y, w)
		second, e3 := scope.Subst(e, y, w)
		if e1 != api.OK || e2 != api.OK || e3 != api.OK {
			continue // a resumption cannot be replaced by what is no variable
		}
		left, e4 := scope.Subst(first, y, w)
		right, e5 := scope.Subst(second, x, inValue)
		if e4 != api.OK || e5 != api.OK {
			continue
		}
		tried++
		if !answer(scope.Alpha(left, right)) || !modelAlpha(left, right) {
			t.Fatalf("%s, %s by %s, %s by %s: %s; %s", shown(e), x, shown(value), y, shown(w), shown(left), shown(right))
		}
	}
}

// P3.5, P3.9, P3.10, P3.12: equality up to renaming is an equivalence that substitution respects, and canonical forms tell it.
func TestRenaming(t *testing.T) {
	m := newMaker(5)
	tree, answer := must[api.Expr](t), must[bool](t)
	changed := 0
	for range 2500 {
		a := m.expr(1 + m.Intn(5))
		b := m.renamed(a)
		c := m.renamed(b)
		if !syntax.Same(a, b) {
			changed++
		}
		for _, pair := range [][2]api.Expr{{a, a}, {a, b}, {b, a}, {b, c}, {a, c}} {
			if !answer(scope.Alpha(pair[0], pair[1])) {
				t.Fatalf("%s and %s are not equal up to renaming", shown(pair[0]), shown(pair[1]))
			}
		}
		canon := tree(scope.Canon(a))
		for _, x := range []api.Expr{b, c, canon} {
			if again := tree(scope.Canon(x)); !syntax.Same(again, canon) || shown(again) != shown(canon) {
				t.Fatalf("%s and %s have the canonical forms %s and %s", shown(a), shown(x), shown(canon), shown(again))
			}
		}
		x := m.of(someVars)
		value := m.value(a, x)
		left, right := tree(scope.Subst(a, x, value)), tree(scope.Subst(b, x, m.renamed(value)))
		if !answer(scope.Alpha(left, right)) {
			t.Fatalf("%s for %s in %s and %s: %s and %s", shown(value), x, shown(a), shown(b), shown(left), shown(right))
		}
	}
	if changed < 800 {
		t.Errorf("only %d expressions were renamed", changed)
	}
}

// P3.5, P3.10: expressions that differ, too, as the model has it.
func TestAlphaAgainstModel(t *testing.T) {
	m := newMaker(6)
	tree := must[api.Expr](t)
	equal := 0
	for range 20000 {
		a := m.expr(1 + m.Intn(4))
		b := m.expr(1 + m.Intn(3))
		if m.Intn(3) > 0 {
			b = m.renamed(a)
			m.change(&b)
		}
		got, err := scope.Alpha(a, b)
		if want := modelAlpha(a, b); got != want || err != api.OK || syntax.Same(tree(scope.Canon(a)), tree(scope.Canon(b))) != want {
			t.Fatalf("Alpha(%s, %s) = %t, %d", shown(a), shown(b), got, err)
		}
		if got {
			equal++
		}
	}
	if equal < 1000 || equal > 19000 {
		t.Errorf("%d expressions are equal", equal)
	}
}

// change changes one name of a node, if the expression stays well formed.
func (m maker) change(e *api.Expr) {
	all := everyNode(e)
	n := all[m.Intn(len(all))]
	before := copied(*e, false)
	if l := sites(n); len(l) > 0 && m.Intn(2) == 0 {
		*l[m.Intn(len(l))].name = m.of(someVars)
	} else if n.S != "" {
		n.S = m.of(someVars)
	}
	if syntax.Check(*e) != api.OK {
		*e = before
	}
}

// P3.6, P3.10: what Canon and Unique return is equal to the argument up to renaming, and is left as it is.
func TestAgain(t *testing.T) {
	m := newMaker(7)
	tree, list := must[api.Expr](t), must[[]string](t)
	for range 4000 {
		e := m.expr(1 + m.Intn(6))
		canon, unique := tree(scope.Canon(e)), tree(scope.Unique(e))
		for _, x := range []api.Expr{canon, unique} {
			if !modelAlpha(e, x) {
				t.Fatalf("%s became %s", shown(e), shown(x))
			}
			if !slices.Equal(list(scope.Free(x)), list(scope.Free(e))) || !slices.Equal(list(scope.Handlers(x)), list(scope.Handlers(e))) {
				t.Fatalf("%s became %s: free names", shown(e), shown(x))
			}
		}
		if !syntax.Same(tree(scope.Canon(canon)), canon) || !syntax.Same(tree(scope.Canon(unique)), canon) || !syntax.Same(tree(scope.Unique(unique)), unique) {
			t.Fatalf("%s: canonical %s, unique %s", shown(e), shown(canon), shown(unique))
		}
		wantDistinct(t, unique)
	}
}

// wantDistinct checks that no name is bound twice, and none that is free.
func wantDistinct(t *testing.T, e api.Expr) {
	t.Helper()
	seen := map[bound]bool{}
	for _, n := range everyNode(&e) {
		for _, s := range sites(n) {
			x := bound{s.handler, *s.name}
			if seen[x] || modelUses(&e, x.handler, x.name) > 0 {
				t.Fatalf("%s is bound twice, or free, in %s", x.name, shown(e))
			}
			seen[x] = true
		}
	}
}

// P3.12: an expression that was printed and read is renamed as before.
func TestTexts(t *testing.T) {
	m := newMaker(8)
	tree := must[api.Expr](t)
	for range 2000 {
		e := m.expr(1 + m.Intn(6))
		read := parsed(t, shown(e))
		x := m.of(someVars)
		value := m.value(e, x)
		for _, f := range []func(api.Expr) (api.Expr, api.Errno){scope.Canon, scope.Unique, func(e api.Expr) (api.Expr, api.Errno) { return scope.Subst(e, x, value) }} {
			out := tree(f(e))
			if !syntax.Same(tree(f(read)), out) || !syntax.Same(parsed(t, shown(out)), out) {
				t.Fatalf("%s: %s", shown(e), shown(out))
			}
		}
	}
}

// P3.13, R4: arguments stay as they are, and results share no memory with them, nor a list with another one.
func TestMemory(t *testing.T) {
	m := newMaker(9)
	tree := must[api.Expr](t)
	for range 2000 {
		e, x := m.expr(1+m.Intn(6)), m.of(someVars)
		value := m.value(e, x)
		e0, value0 := copied(e, false), copied(value, false)
		in, canon, unique := tree(scope.Subst(e, x, value)), tree(scope.Canon(e)), tree(scope.Unique(e))
		if shared(e, value, in, canon, unique) {
			t.Fatalf("%s, %s, %s: memory is shared", shown(e), x, shown(value))
		}
		scope.Alpha(e, value)
		scope.Free(e)
		scope.Handlers(e)
		scope.Closed(e)
		scope.Names(e)
		scope.Uses(e, x)
		if !reflect.DeepEqual(e, e0) || !reflect.DeepEqual(value, value0) {
			t.Fatalf("%s, %s: arguments are changed", shown(e0), shown(value0))
		}
	}
	used := []string{"x1", "x", "x", "x0"}
	if got, err := scope.Fresh("x", used[:3]); got != "x0" || err != api.OK || !slices.Equal(used, []string{"x1", "x", "x", "x0"}) {
		t.Errorf("Fresh = %s, %d: %v", got, err, used)
	}
}

// R3, P0.6: nil and empty lists are the same, and equal arguments give equal results.
func TestEmptyLists(t *testing.T) {
	m := newMaker(10)
	for range 1500 {
		e, x := m.expr(1+m.Intn(5)), m.of(someVars)
		value := m.value(e, x)
		empty, emptyValue := copied(e, true), copied(value, true)
		if a, b := everything(e, x, value), everything(empty, x, emptyValue); !reflect.DeepEqual(a, b) {
			t.Fatalf("%s, %s, %s: %v; %v", shown(e), x, shown(value), a, b)
		}
	}
	a, e1 := scope.Fresh("x", nil)
	b, e2 := scope.Fresh("x", []string{})
	if a != "x" || b != "x" || e1 != api.OK || e2 != api.OK {
		t.Errorf("Fresh of nothing = %s, %s", a, b)
	}
}

// everything returns what all functions return.
func everything(e api.Expr, x string, value api.Expr) (l []any) {
	free, e1 := scope.Free(e)
	hands, e2 := scope.Handlers(e)
	closed, e3 := scope.Closed(e)
	names, e4 := scope.Names(e)
	uses, e5 := scope.Uses(e, x)
	in, e6 := scope.Subst(e, x, value)
	equal, e7 := scope.Alpha(e, value)
	canon, e8 := scope.Canon(e)
	unique, e9 := scope.Unique(e)
	fresh, e10 := scope.Fresh(x, names)
	return []any{free, e1, hands, e2, closed, e3, names, e4, uses, e5, in, e6, equal, e7, canon, e8, unique, e9, fresh, e10}
}

// R8, P0.6: any trees are accepted, and refused as syntax.Check refuses them.
func TestAnyTrees(t *testing.T) {
	m := newMaker(11)
	refused := 0
	for range 8000 {
		e, value := m.expr(1+m.Intn(5)), m.expr(1+m.Intn(3))
		m.spoil(&e)
		m.spoil(&value)
		x := m.of(slices.Concat(someVars, noNames))
		if !reflect.DeepEqual(everything(e, x, value), everything(copied(e, true), x, copied(value, true))) {
			t.Fatalf("results differ: %v", e)
		}
		if want := syntax.Check(e); want != api.OK {
			refused++
			wantRefused(t, e, want)
		} else if want := syntax.Check(value); want != api.OK && slices.Contains(someVars, x) {
			if got, err := scope.Subst(e, x, value); err != want || !syntax.Same(got, api.Expr{}) {
				t.Fatalf("Subst of what is malformed: %d; want %d", err, want)
			}
			if equal, err := scope.Alpha(e, value); equal || err != want {
				t.Fatalf("Alpha of what is malformed: %t, %d; want %d", equal, err, want)
			}
		}
	}
	if refused < 2000 {
		t.Errorf("only %d trees are malformed", refused)
	}
}
