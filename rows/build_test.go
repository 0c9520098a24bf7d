package rows_test

import (
	"math/rand"
	"reflect"
	"slices"
	"strconv"
	"strings"
	"testing"

	"reprise/api"
	"reprise/syntax"
)

// Types without parts.
var (
	tint  = api.Type{Kind: api.TInt}
	tbool = api.Type{Kind: api.TBool}
	tunit = api.Type{Kind: api.TUnit}
)

func tvar(n int) api.Type                   { return api.Type{Kind: api.TVar, N: n} }
func data(s string, l ...api.Type) api.Type { return api.Type{Kind: api.TData, S: s, L: l} }
func open(tail int, l ...api.Label) api.Row { return api.Row{Labels: l, Tail: tail} }
func closed(l ...api.Label) api.Row         { return open(-1, l...) }
func fun(a api.Type, r api.Row, b api.Type) api.Type {
	return api.Type{Kind: api.TFun, L: []api.Type{a, b}, Row: r}
}

// rowType returns the function type from Unit to Unit with a row.
func rowType(r api.Row) api.Type { return fun(tunit, r, tunit) }

// typ returns the type of a text.
func typ(t *testing.T, text string) api.Type {
	t.Helper()
	x, at, e := syntax.ParseType(text)
	if e != api.OK {
		t.Fatalf("%q: %d, %d", text, at, e)
	}
	return x
}

// subst returns the substitution of a text: bindings with semicolons in between, those of types first.
func subst(t *testing.T, text string) (s api.Subst) {
	t.Helper()
	for _, part := range strings.Split(text, ";") {
		name, to, ok := strings.Cut(strings.TrimSpace(part), ": ")
		if !ok {
			continue
		}
		n, err := strconv.Atoi(name[1:])
		switch {
		case err != nil:
			t.Fatalf("%q", text)
		case name[0] == 't':
			s.Types = append(s.Types, api.TypeBind{N: n, T: typ(t, to)})
		default:
			s.Rows = append(s.Rows, api.RowBind{N: n, R: typ(t, "Unit -> "+to+" Unit").Row})
		}
	}
	return s
}

// equations returns the equations of a text, with semicolons in between.
func equations(t *testing.T, text string) (l []api.Pair) {
	t.Helper()
	for _, part := range strings.Split(text, ";") {
		a, b, ok := strings.Cut(strings.TrimSpace(part), " = ")
		if ok {
			l = append(l, api.Pair{A: typ(t, a), B: typ(t, b)})
		}
	}
	return l
}

// shown returns a type as text, shownSubst a substitution, and shownPairs equations.
func shown(x api.Type) string {
	text, e := syntax.ShowType(x)
	if e != api.OK {
		return "not well formed"
	}
	return text
}

func shownSubst(s api.Subst) string {
	var out []string
	for _, b := range s.Types {
		out = append(out, shown(tvar(b.N))+": "+shown(b.T))
	}
	for _, b := range s.Rows {
		out = append(out, "r"+strconv.Itoa(b.N)+": "+shown(rowType(b.R)))
	}
	return strings.Join(out, "; ")
}

func shownPairs(l []api.Pair) string {
	var out []string
	for _, p := range l {
		out = append(out, shown(p.A)+" = "+shown(p.B))
	}
	return strings.Join(out, "; ")
}

// deep returns a type within so many others.
func deep(n int, x api.Type) api.Type {
	for range n {
		x = data("List", x)
	}
	return x
}

// wide returns a type of n nodes, of little depth, whose leaves are all the same.
func wide(n int, leaf api.Type) api.Type {
	if n == 1 {
		return leaf
	}
	out := data("Wide")
	for left := n - 1; left > 0; {
		share := left
		if m := api.MaxArgs - len(out.L); m > 1 {
			share = (left + m - 1) / m
		}
		out.L = append(out.L, wide(share, leaf))
		left -= share
	}
	return out
}

// labels returns n labels, of which no two are the same.
func labels(n int) (l []api.Label) {
	for i := range n {
		l = append(l, api.Label{S: "E" + strconv.Itoa(i)})
	}
	return l
}

// endless returns a type that contains itself.
func endless() api.Type {
	x := data("List", tint)
	x.L[0] = x
	return x
}

// malformed has types with each error of CheckType.
func malformed() map[api.Errno][]api.Type {
	return map[api.Errno][]api.Type{
		api.ErrSize:  {endless(), deep(api.MaxDepth, tint), wide(api.MaxSize+1, tint), rowType(closed(labels(2*api.MaxDecls + 1)...))},
		api.ErrArg:   {{Kind: -1}, {Kind: 7}, tvar(-1), tvar(api.MaxInt + 1), {Kind: api.TInt, N: 1}, {Kind: api.TInt, Row: api.Row{Tail: -1}}, rowType(open(-2)), rowType(open(api.MaxInt + 1)), rowType(closed(api.Label{S: "E", N: -1}))},
		api.ErrName:  {data("Int"), data("x"), data(""), {Kind: api.TParam, S: "X"}, rowType(closed(api.Label{S: "e"})), {Kind: api.TVar, S: "t"}},
		api.ErrArity: {{Kind: api.TFun}, {Kind: api.TFun, L: make([]api.Type, 3)}, data("A", make([]api.Type, api.MaxArgs+1)...), {Kind: api.TVar, L: make([]api.Type, 1)}},
	}
}

// maker makes random types. Their names are few, so that they often match, and often do not.
type maker struct{ *rand.Rand }

func newMaker(seed int64) maker { return maker{rand.New(rand.NewSource(seed))} }

// label returns a label.
func (m maker) label() api.Label {
	return []api.Label{{S: "A"}, {S: "B"}, {S: "B", N: 1}, {S: "C"}}[[]int{0, 0, 0, 1, 1, 2, 3}[m.Intn(7)]]
}

// row returns a row with a tail from 0 to tails-1, or closed.
func (m maker) row(tails int) api.Row {
	r := open(m.Intn(tails+1) - 1)
	for range []int{0, 0, 0, 1, 1, 2, 3}[m.Intn(7)] {
		r.Labels = append(r.Labels, m.label())
	}
	return r
}

// typ returns a type with variables from 0 to vars-1, and rows with tails from 0 to vars-1.
func (m maker) typ(depth, vars int) api.Type {
	n := m.Intn(12)
	switch {
	case n < 3 && vars > 0:
		return tvar(m.Intn(vars))
	case n < 7 && depth > 1:
		return fun(m.typ(depth-1, vars), m.row(vars), m.typ(depth-1, vars))
	case n < 9 && depth > 1:
		return data("List", m.typ(depth-1, vars))
	case n == 9 && depth > 1:
		return data([]string{"Pair", "Two"}[m.Intn(2)], m.typ(depth-1, vars), m.typ(depth-1, vars))
	case n == 10:
		return []api.Type{data("List"), data("Pair"), {Kind: api.TParam, S: "a"}, {Kind: api.TParam, S: "b"}}[m.Intn(4)]
	}
	return []api.Type{tint, tbool, tunit}[m.Intn(3)]
}

// rowPairs returns equations between random rows, most of which are open.
func (m maker) rowPairs() (l []api.Pair) {
	vars := 2 + m.Intn(6)
	row := func() api.Row {
		r := open(m.Intn(vars))
		if m.Intn(12) == 0 {
			r = closed()
		}
		for range m.Intn(3) {
			r.Labels = append(r.Labels, m.label())
		}
		return r
	}
	for range 1 + m.Intn(3) {
		l = append(l, api.Pair{A: rowType(row()), B: rowType(row())})
	}
	if m.Intn(2) == 0 {
		l = append(l, api.Pair{A: tvar(0), B: fun(rowType(row()), row(), rowType(row()))})
	}
	return l
}

// pairs returns equations between random types, few of which have a solution.
func (m maker) pairs() (l []api.Pair) {
	for range 1 + m.Intn(3) {
		vars := 1 + m.Intn(4)
		l = append(l, api.Pair{A: m.typ(4, vars), B: m.typ(4, vars)})
	}
	return l
}

// solution returns a valid substitution that binds the variables from 0 to vars-1, and those alone.
func (m maker) solution(vars int) (s api.Subst) {
	lift := func(n int) int { return n + vars }
	for n := range vars {
		s.Types = append(s.Types, api.TypeBind{N: n, T: renumbered(m.typ(2, 3), lift, lift)})
		s.Rows = append(s.Rows, api.RowBind{N: n, R: renumbered(rowType(m.row(3)), lift, lift).Row})
	}
	return s
}

// solvable returns equations that a valid substitution solves, and this substitution.
func (m maker) solvable() (l []api.Pair, s api.Subst) {
	vars := 1 + m.Intn(4)
	s = m.solution(vars)
	for range 1 + m.Intn(4) {
		x := m.typ(4, vars)
		l = append(l, api.Pair{A: m.hidden(x, s), B: m.hidden(modelApply(s, x), s)})
	}
	return l, s
}

// hidden returns a type that a substitution makes the same of: here and there a variable stands for a part.
func (m maker) hidden(x api.Type, s api.Subst) api.Type {
	for _, b := range s.Types {
		if m.Intn(2) == 0 && modelEqual(b.T, modelApply(s, x)) {
			return tvar(b.N)
		}
	}
	x.L = slices.Clone(x.L)
	for i, part := range x.L {
		x.L[i] = m.hidden(part, s)
	}
	if x.Kind == api.TFun {
		x.Row = m.hiddenRow(x.Row, s)
	}
	return x
}

// hiddenRow returns a row of which a substitution makes the same: a variable may stand for some of its labels and its tail.
func (m maker) hiddenRow(r api.Row, s api.Subst) api.Row {
	l := slices.Clone(r.Labels)
	m.Shuffle(len(l), func(i, j int) { l[i], l[j] = l[j], l[i] })
	for _, b := range s.Rows {
		rest, ok := modelTake(l, b.R.Labels)
		if ok && b.R.Tail == r.Tail && m.Intn(2) == 0 {
			return open(b.N, rest...)
		}
	}
	return open(r.Tail, l...)
}

// spoil changes a node of a type, which stays well formed.
func (m maker) spoil(x *api.Type, vars int) {
	if len(x.L) > 0 && m.Intn(4) > 0 {
		m.spoil(&x.L[m.Intn(len(x.L))], vars)
		return
	}
	if x.Kind == api.TFun && m.Intn(2) == 0 {
		x.Row = m.row(vars)
		return
	}
	*x = m.typ(2, vars)
}

// shuffled returns a type with the labels of its rows in another order.
func (m maker) shuffled(x api.Type) api.Type {
	x = copiedType(x)
	var shuffle func(x api.Type)
	shuffle = func(x api.Type) {
		l := x.Row.Labels
		m.Shuffle(len(l), func(i, j int) { l[i], l[j] = l[j], l[i] })
		for _, part := range x.L {
			shuffle(part)
		}
	}
	shuffle(x)
	return x
}

// renumbered returns a type with other numbers of variables.
func renumbered(x api.Type, types, rows func(int) int) api.Type {
	x = shallow(x)
	if x.Kind == api.TVar {
		x.N = types(x.N)
	}
	if x.Kind == api.TFun && x.Row.Tail >= 0 {
		x.Row.Tail = rows(x.Row.Tail)
	}
	for i, part := range x.L {
		x.L[i] = renumbered(part, types, rows)
	}
	return x
}

// together returns one type that has all types in it.
func together(l ...api.Type) api.Type {
	all := tunit
	for _, x := range l {
		all = data("Both", x, all)
	}
	return all
}

// copiedType returns a deep copy of a type.
func copiedType(x api.Type) api.Type {
	x.Row.Labels = slices.Clone(x.Row.Labels)
	x.L = slices.Clone(x.L)
	for i, part := range x.L {
		x.L[i] = copiedType(part)
	}
	return x
}

// copied returns a deep copy of anything; with empty, its empty lists are not nil.
func copied[T any](x T, empty bool) T {
	out := reflect.New(reflect.TypeOf(x)).Elem()
	deepCopy(out, reflect.ValueOf(x), empty)
	return out.Interface().(T)
}

func deepCopy(to, from reflect.Value, empty bool) {
	switch from.Kind() {
	case reflect.Slice:
		if from.Len() == 0 && !empty {
			return
		}
		to.Set(reflect.MakeSlice(from.Type(), from.Len(), from.Len()))
		for i := range from.Len() {
			deepCopy(to.Index(i), from.Index(i), empty)
		}
	case reflect.Struct:
		for i := range from.NumField() {
			deepCopy(to.Field(i), from.Field(i), empty)
		}
	default:
		to.Set(from)
	}
}

// same reports whether two values are equal, where nil and empty lists are.
func same[T any](x, y T) bool { return reflect.DeepEqual(copied(x, false), copied(y, false)) }

// memory returns the lists within a value, each by where it lies; twice whether one of them lies there twice.
func memory(x any) (seen map[uintptr]bool, twice bool) {
	seen = map[uintptr]bool{}
	var look func(x reflect.Value)
	look = func(x reflect.Value) {
		switch x.Kind() {
		case reflect.Slice:
			if x.Len() == 0 {
				return
			}
			twice = twice || seen[x.Pointer()]
			seen[x.Pointer()] = true
			for i := range x.Len() {
				look(x.Index(i))
			}
		case reflect.Struct:
			for i := range x.NumField() {
				look(x.Field(i))
			}
		}
	}
	look(reflect.ValueOf(x))
	return seen, twice
}

// shares reports whether two lists within a result share memory, or one does with an argument.
func shares(result any, arguments ...any) bool {
	own, twice := memory(result)
	for _, x := range arguments {
		others, _ := memory(x)
		for at := range others {
			twice = twice || own[at]
		}
	}
	return twice
}
