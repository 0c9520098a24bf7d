package decl_test

import (
	"math/rand"
	"reflect"
	"slices"
	"strconv"
	"strings"
	"testing"

	"reprise/api"
	"reprise/syntax"
)

// head is the declarations of P of the chapter's examples.
const head = `data List a { Nil; Cons a (List a) }
data Void { }
data Tree { Leaf; Node Tree Int Tree }
data Loop { More Loop }
effect State { get : Unit -> Int; put : Int -> Unit }
effect Exc { once raise : Unit -> Void }
`

// Types without parts.
var (
	tint  = api.Type{Kind: api.TInt}
	tbool = api.Type{Kind: api.TBool}
	tunit = api.Type{Kind: api.TUnit}
)

func data(s string, l ...api.Type) api.Type { return api.Type{Kind: api.TData, S: s, L: l} }
func param(s string) api.Type               { return api.Type{Kind: api.TParam, S: s} }

// read returns the tree of a text.
func read[T any](t *testing.T, parse func(string) (T, int, api.Errno), text string) T {
	t.Helper()
	tree, at, e := parse(text)
	if e != api.OK {
		t.Fatalf("%q: %d, %d", text, at, e)
	}
	return tree
}

// parsed returns the program of a text without its main, expr an expression, and typ a type.
func parsed(t *testing.T, text string) api.Program { return read(t, syntax.Parse, text+" main ()") }
func expr(t *testing.T, text string) api.Expr      { return read(t, syntax.ParseExpr, text) }
func typ(t *testing.T, text string) api.Type       { return read(t, syntax.ParseType, text) }

// shown returns an expression as text, and shownTypes types.
func shown(e api.Expr) string {
	text, err := syntax.Show(e)
	if err != api.OK {
		return "not well formed"
	}
	return text
}

func shownTypes(l ...api.Type) string {
	var out []string
	for _, t := range l {
		text, e := syntax.ShowType(t)
		if e != api.OK {
			text = "not well formed"
		}
		out = append(out, text)
	}
	return strings.Join(out, ", ")
}

// printed returns a program as text.
func printed(p api.Program) string {
	text, e := syntax.Print(p)
	if e != api.OK {
		return "not well formed"
	}
	return text
}

// wide returns a type of n nodes, of little depth, whose leaves are all the same.
func wide(n int, leaf api.Type) api.Type {
	if n == 1 {
		return leaf
	}
	out := api.Type{Kind: api.TData, S: "Wide"}
	for left := n - 1; left > 0; {
		share := left
		if m := api.MaxArgs - len(out.L); m > 1 {
			share = (left + m - 1) / m
		}
		out.L = append(out.L, wide(share, leaf))
		left -= share
	}
	return out
}

// deep returns a type within so many others.
func deep(n int, t api.Type) api.Type {
	for range n {
		t = data("List", t)
	}
	return t
}

// typeSize and typeDepth are the size and the depth of a type.
func typeSize(t api.Type) int {
	n := 1
	for _, part := range t.L {
		n += typeSize(part)
	}
	return n
}

func typeDepth(t api.Type) int {
	n := 0
	for _, part := range t.L {
		n = max(n, typeDepth(part))
	}
	return n + 1
}

// endless returns a type, and an expression, that contain themselves.
func endless() (api.Type, api.Expr) {
	t := api.Type{Kind: api.TData, S: "List", L: make([]api.Type, 1)}
	t.L[0] = t
	e := api.Expr{Kind: api.Con, S: "Cons", L: make([]api.Expr, 2)}
	e.L[0], e.L[1] = e, e
	return t, e
}

// maker makes random trees. Their names are few, so that they often are, and often are not, what is declared.
type maker struct{ *rand.Rand }

func newMaker(seed int64) maker { return maker{rand.New(rand.NewSource(seed))} }

var (
	someData    = []string{"A", "B", "C", "D"}
	someEffects = []string{"E", "F", "IO"}
	someOps     = []string{"ask", "tell", "print", "read"}
	someParams  = []string{"a", "b", "c"}
	someWrong   = []string{"", "x", "X", "Int", "let", "a b", "abcdefghijklm", "IO", "K0"}
)

func (m maker) of(l []string) string { return l[m.Intn(len(l))] }

// numbered returns a letter with a number.
func numbered(letter string, n int) string { return letter + strconv.Itoa(n) }

// declarations returns a program of which most are in order: data types with constructors K0, K1, .., and effects with operations o0, o1, ..
func (m maker) declarations(functions bool) api.Program {
	var p api.Program
	for _, name := range someData[:1+m.Intn(len(someData))] {
		p.Data = append(p.Data, api.Data{Name: name, Params: slices.Clone(someParams[:[]int{0, 0, 1, 1, 2, 3}[m.Intn(6)]])})
	}
	made := 0
	for i := range p.Data {
		d := &p.Data[i]
		for range []int{0, 1, 1, 2, 2, 3}[m.Intn(6)] {
			c := api.Cons{Name: numbered("K", made)}
			made++
			for range []int{0, 0, 1, 1, 2, 3}[m.Intn(6)] {
				c.Args = append(c.Args, m.typ(p, 3, d.Params, functions))
			}
			d.Cons = append(d.Cons, c)
		}
	}
	made = 0
	for _, name := range someEffects[:m.Intn(3)] {
		f := api.Effect{Name: name}
		for range m.Intn(3) {
			f.Ops = append(f.Ops, api.Op{Name: numbered("o", made), Arg: m.typ(p, 2, nil, functions), Res: m.typ(p, 2, nil, functions), Once: m.Intn(2) == 0})
			made++
		}
		p.Effects = append(p.Effects, f)
	}
	p.Main = api.Expr{Kind: api.Unit}
	return p
}

// typ returns a type that is in order with some parameters.
func (m maker) typ(p api.Program, depth int, params []string, functions bool) api.Type {
	switch n := m.Intn(8); {
	case n < 3 && len(p.Data) > 0 && depth > 1:
		d := p.Data[m.Intn(len(p.Data))]
		t := api.Type{Kind: api.TData, S: d.Name}
		for range d.Params {
			t.L = append(t.L, m.typ(p, depth-1, params, functions))
		}
		return t
	case n < 5 && len(params) > 0:
		return param(m.of(params))
	case n == 5 && functions && depth > 1:
		t := api.Type{Kind: api.TFun, L: []api.Type{m.typ(p, depth-1, params, true), m.typ(p, depth-1, params, true)}, Row: api.Row{Tail: -1}}
		for range m.Intn(3) {
			name := api.IO
			if i := m.Intn(len(p.Effects) + 1); i < len(p.Effects) {
				name = p.Effects[i].Name
			}
			t.Row.Labels = append(t.Row.Labels, api.Label{S: name})
		}
		return t
	}
	return []api.Type{tint, tbool, tunit}[m.Intn(3)]
}

// dataType returns a closed type that is in order, and is a data type.
func (m maker) dataType(p api.Program, functions bool) api.Type {
	d := p.Data[m.Intn(len(p.Data))]
	t := api.Type{Kind: api.TData, S: d.Name}
	for range d.Params {
		t.L = append(t.L, m.typ(p, 2, nil, functions))
	}
	return t
}

// spoilType changes a node of a type, which may then still be in order.
func (m maker) spoilType(t *api.Type) {
	if len(t.L) > 0 && m.Intn(3) > 0 {
		m.spoilType(&t.L[m.Intn(len(t.L))])
		return
	}
	switch m.Intn(7) {
	case 0:
		*t = param(m.of(someParams))
	case 1:
		*t = data(m.of(someData))
	case 2:
		t.S = m.of(slices.Concat(someWrong, someData))
	case 3:
		t.L = append(slices.Clone(t.L), tint)
	case 4:
		t.Row.Labels = append(slices.Clone(t.Row.Labels), api.Label{S: m.of(slices.Concat(someWrong, someEffects)), N: m.Intn(8) / 7})
	case 5:
		t.Row.Tail = m.Intn(3) - 1
	case 6:
		*t = api.Type{Kind: api.TypeKind(m.Intn(9) - 1)}
	}
}

// spoilDecls changes something in declarations, which may then still be in order.
func (m maker) spoilDecls(p *api.Program) {
	if len(p.Effects) > 0 && m.Intn(3) == 0 {
		m.spoilEffect(&p.Effects[m.Intn(len(p.Effects))])
		return
	}
	if len(p.Data) == 0 {
		return
	}
	d := &p.Data[m.Intn(len(p.Data))]
	switch n := m.Intn(8); {
	case n == 0:
		d.Name = m.of(slices.Concat(someWrong, someData, someEffects))
	case n == 1:
		d.Params = append(d.Params, m.of(someParams))
	case n == 2 && len(d.Params) > 0:
		d.Params = d.Params[1:]
	case n == 3 && len(d.Cons) > 0:
		d.Cons[m.Intn(len(d.Cons))].Name = m.of(slices.Concat(someWrong, []string{"K1", "K2"}))
	default:
		for i := range d.Cons {
			for j := range d.Cons[i].Args {
				if m.Intn(2) == 0 {
					m.spoilType(&d.Cons[i].Args[j])
				}
			}
		}
	}
}

// spoilEffect changes something in an effect.
func (m maker) spoilEffect(f *api.Effect) {
	if len(f.Ops) == 0 || m.Intn(4) == 0 {
		f.Name = m.of(slices.Concat(someWrong, someEffects))
		return
	}
	o := &f.Ops[m.Intn(len(f.Ops))]
	switch m.Intn(3) {
	case 0:
		o.Name = m.of(slices.Concat(someWrong, someOps, []string{"o0", "o1"}))
	case 1:
		m.spoilType(&o.Arg)
	case 2:
		m.spoilType(&o.Res)
	}
}

// expr returns a well-formed expression, most of whose nodes are in order.
func (m maker) expr(p api.Program, depth int) api.Expr {
	kind := api.Kind(m.Intn(20))
	if depth <= 1 {
		kind = []api.Kind{api.Var, api.Int, api.Bool, api.Unit, api.Drop}[m.Intn(5)]
	}
	e := api.Expr{Kind: kind}
	parts := []int{0, 0, 0, 0, 1, 2, 2, 2, 3, 2, 0, 1, 1, 1, 1, 1, 1, 3, 1, 0}[kind]
	switch kind {
	case api.Var, api.Drop, api.Resume:
		e.S = "x"
	case api.Int, api.Bool:
		e.N = m.Intn(2)
	case api.Fun, api.Let:
		e.Names = []string{"x"}
	case api.Rec:
		e.Names = []string{"f", "x"}
	case api.Prim:
		e.S = "+"
	case api.Con:
		e.S, parts = m.constructor(p)
	case api.Do:
		e.S = m.operation(p)
	case api.At:
		e.S, e.T = "print", m.operation(p)
	case api.Mask, api.Handle:
		e.S = m.effect(p)
	case api.Named:
		e.S, e.Names = m.effect(p), []string{"h"}
	case api.Using:
		e.Names = m.using(p)
	}
	for range parts {
		e.L = append(e.L, m.expr(p, depth-1))
	}
	e.Arms = m.arms(p, e, depth-1)
	return e
}

// sometimes reports true now and then.
func (m maker) sometimes() bool { return m.Intn(25) == 0 }

// constructor returns the name of a constructor, and how many parts it is to have.
func (m maker) constructor(p api.Program) (string, int) {
	var all []api.Cons
	for _, d := range p.Data {
		all = append(all, d.Cons...)
	}
	if len(all) == 0 || m.sometimes() {
		return numbered("K", m.Intn(12)), m.Intn(3)
	}
	c := all[m.Intn(len(all))]
	if m.sometimes() {
		return c.Name, m.Intn(api.MaxArgs + 1)
	}
	return c.Name, len(c.Args)
}

// operation returns the name of an operation.
func (m maker) operation(p api.Program) string {
	all := []string{"print", "read"}
	for _, f := range p.Effects {
		for _, o := range f.Ops {
			all = append(all, o.Name)
		}
	}
	if m.sometimes() {
		return numbered("o", m.Intn(9))
	}
	return m.of(all)
}

// effect returns the name of an effect.
func (m maker) effect(p api.Program) string {
	if m.sometimes() {
		return m.of(someEffects)
	}
	return append([]string{api.IO}, m.effectsOf(p)...)[m.Intn(len(p.Effects)+1)]
}

func (m maker) effectsOf(p api.Program) (l []string) {
	for _, f := range p.Effects {
		l = append(l, f.Name)
	}
	return l
}

// using returns the names of a Using.
func (m maker) using(p api.Program) []string {
	l := m.effectsOf(p)
	if m.Intn(6) == 0 {
		l = append(l, m.of([]string{"G", "IO"}))
	}
	m.Shuffle(len(l), func(i, j int) { l[i], l[j] = l[j], l[i] })
	return append([]string{"x"}, l...)
}

// arms returns the arms of a node.
func (m maker) arms(p api.Program, e api.Expr, depth int) (l []api.Arm) {
	switch e.Kind {
	case api.Match:
		if len(p.Data) > 0 {
			for _, c := range p.Data[m.Intn(len(p.Data))].Cons {
				l = append(l, api.Arm{Op: c.Name, Names: []string{"w", "x", "y", "z"}[:len(c.Args)], Body: m.expr(p, depth)})
			}
		}
	case api.Handle, api.Named:
		l = append(l, api.Arm{Op: "return", Names: []string{"x"}, Body: m.expr(p, depth)})
		for _, op := range modelOps(p, e.S) {
			l = append(l, api.Arm{Op: op.Name, Names: []string{"x", "k"}, Body: m.expr(p, depth)})
		}
	default:
		return nil
	}
	if n := len(l); n > 1 && m.sometimes() {
		i := 1 + m.Intn(n-1)
		switch m.Intn(4) {
		case 0:
			l = slices.Delete(l, i, i+1)
		case 1:
			l[i], l[n-1] = l[n-1], l[i]
		case 2:
			l[i].Op = l[i].Op[:1] + "9"
		case 3:
			if e.Kind == api.Match {
				l[i].Names = []string{"x", "y"}[:m.Intn(3)]
			}
		}
	}
	return l
}

// value returns a value without functions that may be of a type.
func (m maker) value(p api.Program, t api.Type, depth int) api.Expr {
	switch {
	case m.sometimes():
		return []api.Expr{{Kind: api.Int, N: 7}, {Kind: api.Bool, N: 1}, {Kind: api.Unit}, {Kind: api.Con, S: "K1"}}[m.Intn(4)]
	case t.Kind == api.TInt:
		return api.Expr{Kind: api.Int, N: m.Intn(9) - 4}
	case t.Kind == api.TBool:
		return api.Expr{Kind: api.Bool, N: m.Intn(2)}
	case t.Kind == api.TUnit:
		return api.Expr{Kind: api.Unit}
	case t.Kind == api.TFun || depth == 0:
		return api.Expr{Kind: api.Fun, Names: []string{"x"}, L: []api.Expr{{Kind: api.Var, S: "x"}}}
	}
	d := p.Data[slices.IndexFunc(p.Data, func(d api.Data) bool { return d.Name == t.S })]
	if len(d.Cons) == 0 {
		return api.Expr{Kind: api.Con, S: "K0"}
	}
	c := d.Cons[m.Intn(len(d.Cons))]
	if depth == 1 {
		c = slices.MinFunc(d.Cons, func(c, d api.Cons) int { return len(c.Args) - len(d.Args) })
	}
	e := api.Expr{Kind: api.Con, S: c.Name}
	for _, a := range c.Args {
		e.L = append(e.L, m.value(p, modelReplace(a, d.Params, t.L), depth-1))
	}
	return e
}

// copied returns a deep copy of any tree; with empty, its empty lists are not nil.
func copied[T any](x T, empty bool) T {
	out := reflect.New(reflect.TypeOf(x)).Elem()
	deepCopy(out, reflect.ValueOf(x), empty)
	return out.Interface().(T)
}

func deepCopy(to, from reflect.Value, empty bool) {
	switch from.Kind() {
	case reflect.Slice:
		if from.Len() == 0 && !empty {
			return
		}
		to.Set(reflect.MakeSlice(from.Type(), from.Len(), from.Len()))
		for i := range from.Len() {
			deepCopy(to.Index(i), from.Index(i), empty)
		}
	case reflect.Struct:
		for i := range from.NumField() {
			deepCopy(to.Field(i), from.Field(i), empty)
		}
	default:
		to.Set(from)
	}
}

// shares reports whether two lists of any trees share memory, or one tree does with itself.
func shares(l ...any) bool {
	seen := map[uintptr]bool{}
	var look func(x reflect.Value) bool
	look = func(x reflect.Value) bool {
		switch x.Kind() {
		case reflect.Slice:
			if x.Len() == 0 {
				return false
			}
			if seen[x.Pointer()] {
				return true
			}
			seen[x.Pointer()] = true
			for i := range x.Len() {
				if look(x.Index(i)) {
					return true
				}
			}
		case reflect.Struct:
			for i := range x.NumField() {
				if look(x.Field(i)) {
					return true
				}
			}
		}
		return false
	}
	for _, x := range l {
		if look(reflect.ValueOf(x)) {
			return true
		}
	}
	return false
}
