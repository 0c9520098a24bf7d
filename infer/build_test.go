package infer_test

import (
	"math/rand"
	"reflect"
	"slices"
	"strings"
	"testing"

	"reprise/api"
	"reprise/syntax"
)

// head is the declarations of most tests.
const head = `data List a { Nil; Cons a (List a) }
data Pair a b { Pair a b }
data Opt a { None; Some a }
data Fn { Fn (Int -> <State> Int) }
data Nest a { End; More a (Nest (Pair a a)) }
data Void { }
effect State { get : Unit -> Int; put : Int -> Unit }
effect Ask { ask : Int -> Int }
effect Amb { flip : Unit -> Bool }
effect Tick { once tick : Unit -> Int; once halt : Int -> Void }
effect Call { call : (Int -> <Ask> Int) -> Int }
effect Nop { }
`

// Types without parts.
var (
	tint  = api.Type{Kind: api.TInt}
	tbool = api.Type{Kind: api.TBool}
	tunit = api.Type{Kind: api.TUnit}
)

func tvar(n int) api.Type                   { return api.Type{Kind: api.TVar, N: n} }
func data(s string, l ...api.Type) api.Type { return api.Type{Kind: api.TData, S: s, L: l} }
func open(tail int, l ...api.Label) api.Row { return api.Row{Labels: l, Tail: tail} }
func closed(l ...api.Label) api.Row         { return open(-1, l...) }
func fun(a api.Type, r api.Row, b api.Type) api.Type {
	return api.Type{Kind: api.TFun, L: []api.Type{a, b}, Row: r}
}

// rowType returns the function type from Unit to Unit with a row.
func rowType(r api.Row) api.Type { return fun(tunit, r, tunit) }

// read returns the tree of a text.
func read[T any](t testing.TB, parse func(string) (T, int, api.Errno), text string) T {
	t.Helper()
	tree, at, e := parse(text)
	if e != api.OK {
		t.Fatalf("%q: %d at %d", text, e, at)
	}
	return tree
}

// parsed returns the program of a text behind the declarations, expr an expression, and typ a type.
func parsed(t testing.TB, text string) api.Program { return read(t, syntax.Parse, head+text) }
func expr(t testing.TB, text string) api.Expr      { return read(t, syntax.ParseExpr, text) }
func typ(t testing.TB, text string) api.Type       { return read(t, syntax.ParseType, text) }

// shown, shownType and printed return trees as texts.
func shown(x api.Expr) string      { return text(syntax.Show(x)) }
func shownType(x api.Type) string  { return text(syntax.ShowType(x)) }
func printed(p api.Program) string { return strings.TrimPrefix(text(syntax.Print(p)), head) }
func text(s string, e api.Errno) string {
	if e != api.OK {
		return "not well formed"
	}
	return s
}

// shownTypes returns types as text.
func shownTypes(l ...api.Type) string {
	var out []string
	for _, x := range l {
		out = append(out, shownType(x))
	}
	return strings.Join(out, ", ")
}

// Expressions.
func v(x string) api.Expr                  { return api.Expr{Kind: api.Var, S: x} }
func num(n int) api.Expr                   { return api.Expr{Kind: api.Int, N: n} }
func con(s string, l ...api.Expr) api.Expr { return api.Expr{Kind: api.Con, S: s, L: l} }
func app(f, a api.Expr) api.Expr           { return api.Expr{Kind: api.App, L: []api.Expr{f, a}} }
func lam(x string, b api.Expr) api.Expr {
	return api.Expr{Kind: api.Fun, Names: []string{x}, L: []api.Expr{b}}
}
func do(op string, a api.Expr) api.Expr { return api.Expr{Kind: api.Do, S: op, L: []api.Expr{a}} }
func prim(op string, a, b api.Expr) api.Expr {
	return api.Expr{Kind: api.Prim, S: op, L: []api.Expr{a, b}}
}
func ifs(a, b, c api.Expr) api.Expr { return api.Expr{Kind: api.If, L: []api.Expr{a, b, c}} }
func let(x string, a, b api.Expr) api.Expr {
	return api.Expr{Kind: api.Let, Names: []string{x}, L: []api.Expr{a, b}}
}
func arm(op string, b api.Expr, names ...string) api.Arm {
	return api.Arm{Op: op, Names: names, Body: b}
}

// within returns an expression within so many functions.
func within(n int, x api.Expr) api.Expr {
	for range n {
		x = lam("a", x)
	}
	return x
}

// sum returns the sum of expressions, of little depth.
func sum(l ...api.Expr) api.Expr {
	if len(l) == 1 {
		return l[0]
	}
	return prim("+", sum(l[:len(l)/2]...), sum(l[len(l)/2:]...))
}

// copied returns a deep copy of anything; with empty, its empty lists are not nil.
func copied[T any](x T, empty bool) T {
	out := reflect.New(reflect.TypeOf(x)).Elem()
	deepCopy(out, reflect.ValueOf(x), empty)
	return out.Interface().(T)
}

func deepCopy(to, from reflect.Value, empty bool) {
	switch from.Kind() {
	case reflect.Slice:
		if from.Len() == 0 && !empty {
			return
		}
		to.Set(reflect.MakeSlice(from.Type(), from.Len(), from.Len()))
		for i := range from.Len() {
			deepCopy(to.Index(i), from.Index(i), empty)
		}
	case reflect.Struct:
		for i := range from.NumField() {
			deepCopy(to.Field(i), from.Field(i), empty)
		}
	default:
		to.Set(from)
	}
}

// same reports whether two values are equal, where nil and empty lists are.
func same[T any](x, y T) bool { return reflect.DeepEqual(copied(x, false), copied(y, false)) }

// memory returns the lists within values, each by where it lies; twice whether one of them lies there twice.
func memory(l ...any) (seen map[uintptr]bool, twice bool) {
	seen = map[uintptr]bool{}
	var look func(x reflect.Value)
	look = func(x reflect.Value) {
		switch x.Kind() {
		case reflect.Slice:
			if x.Len() == 0 {
				return
			}
			twice = twice || seen[x.Pointer()]
			seen[x.Pointer()] = true
			for i := range x.Len() {
				look(x.Index(i))
			}
		case reflect.Struct:
			for i := range x.NumField() {
				look(x.Field(i))
			}
		}
	}
	for _, x := range l {
		look(reflect.ValueOf(x))
	}
	return seen, twice
}

// name is a name that an expression is made with: a variable of a type (its rows count for nothing), one of every function type from something to itself, a resumption (as a function), or a handler name of an effect.
type name struct {
	text   string
	kind   nameKind
	t      api.Type
	effect string
}

type nameKind int

const (
	ofType nameKind = iota
	ofAny
	ofResumption
	ofHandler
)

// maker makes random expressions that often have types. Its names are few, so that they often hide each other.
type maker struct {
	*rand.Rand
	wrong int // how many of 1000 parts are of any type
}

func newMaker(seed int64, wrong int) maker { return maker{rand.New(rand.NewSource(seed)), wrong} }

func (m maker) of(l ...string) string { return l[m.Intn(len(l))] }

func (m maker) variable() string { return m.of("x", "y", "z", "f", "g", "k", "h") }

// allEffects returns the declared effects, IO behind the others.
func allEffects() []api.Effect { return append(slices.Clone(declared.Effects), io) }

// goal returns a type for an expression.
func (m maker) goal(depth int) api.Type {
	if depth > 0 {
		switch m.Intn(8) {
		case 0:
			return data("List", m.goal(depth-1))
		case 1:
			return data("Pair", m.goal(depth-1), m.goal(depth-1))
		case 2:
			return data("Opt", m.goal(depth-1))
		case 3:
			return fun(m.goal(depth-1), closed(), m.goal(depth-1))
		}
	}
	return []api.Type{tint, tint, tint, tbool, tunit}[m.Intn(5)]
}

// visibleNames returns the names that no other one hides.
func visibleNames(env []name) (l []name) {
	for i, n := range env {
		hides := func(o name) bool { return o.text == n.text && (o.kind == ofHandler) == (n.kind == ofHandler) }
		if !slices.ContainsFunc(env[i+1:], hides) {
			l = append(l, n)
		}
	}
	return l
}

// bind returns an environment with more names.
func bind(env []name, l ...name) []name { return slices.Concat(env, l) }

// typed returns an expression for a type.
func (m maker) typed(t api.Type, depth int, env []name) api.Expr {
	if m.Intn(1000) < m.wrong {
		t = m.goal(2)
	}
	if depth <= 0 {
		return m.atom(t, env)
	}
	makers := []func(api.Type, int, []name) api.Expr{m.leaf, m.plain, m.plain, m.names, m.names, m.lets, m.lets, m.matches, m.effect, m.effect, m.effect, m.handler, m.handler}
	return makers[m.Intn(len(makers))](t, depth-1, env)
}

func (m maker) leaf(t api.Type, _ int, env []name) api.Expr { return m.atom(t, env) }

// atom returns a small expression for a type.
func (m maker) atom(t api.Type, env []name) api.Expr {
	l := slices.DeleteFunc(visibleNames(env), func(n name) bool {
		return n.kind == ofHandler || n.kind == ofType && !sameGoal(n.t, t) || n.kind == ofAny && (t.Kind != api.TFun || !sameGoal(t.L[0], t.L[1])) || n.kind == ofResumption && m.Intn(1000) >= m.wrong
	})
	if len(l) > 0 && m.Intn(4) > 0 {
		return v(l[m.Intn(len(l))].text)
	}
	switch t.Kind {
	case api.TInt:
		return num(m.Intn(3))
	case api.TBool:
		return api.Expr{Kind: api.Bool, N: m.Intn(2)}
	case api.TUnit:
		return api.Expr{Kind: api.Unit}
	case api.TFun:
		x := m.variable()
		return lam(x, m.typed(t.L[1], m.Intn(3), bind(env, name{text: x, t: t.L[0]})))
	}
	switch t.S {
	case "List":
		if m.Intn(2) == 0 {
			return con("Cons", m.atom(t.L[0], env), con("Nil"))
		}
		return con("Nil")
	case "Pair":
		return con("Pair", m.atom(t.L[0], env), m.atom(t.L[1], env))
	}
	switch {
	case t.S == "Void":
		return must("(rec f x = f x in f 0)")
	case m.Intn(2) == 0:
		return con("Some", m.atom(t.L[0], env))
	}
	return con("None")
}

// sameGoal reports whether types are equal but for rows.
func sameGoal(a, b api.Type) bool {
	return a.Kind == b.Kind && a.S == b.S && slices.EqualFunc(a.L, b.L, sameGoal)
}

// plain returns a condition, an operation on integers, a constructor, an application or a function.
func (m maker) plain(t api.Type, depth int, env []name) api.Expr {
	switch n := m.Intn(4); {
	case n == 0:
		return ifs(m.typed(tbool, depth, env), m.typed(t, depth, env), m.typed(t, depth, env))
	case n == 1 && t.Kind == api.TInt:
		return prim(m.of("+", "-", "*"), m.typed(tint, depth, env), m.typed(tint, depth, env))
	case n <= 2 && t.Kind == api.TBool:
		return prim(m.of("<", "=="), m.typed(tint, depth, env), m.typed(tint, depth, env))
	case n <= 2 && t.Kind == api.TFun:
		x := m.variable()
		return lam(x, m.typed(t.L[1], depth, bind(env, name{text: x, t: t.L[0]})))
	case n <= 2 && t.Kind == api.TData && t.S == "List":
		return con("Cons", m.typed(t.L[0], depth, env), m.typed(t, depth, env))
	case n <= 2 && t.Kind == api.TData && t.S == "Pair":
		return con("Pair", m.typed(t.L[0], depth, env), m.typed(t.L[1], depth, env))
	case n <= 2 && t.Kind == api.TData && t.S == "Opt":
		return con("Some", m.typed(t.L[0], depth, env))
	}
	a := m.goal(1)
	return app(m.typed(fun(a, closed(), t), depth, env), m.typed(a, depth, env))
}

// names returns an application of a name that yields the type.
func (m maker) names(t api.Type, depth int, env []name) api.Expr {
	l := slices.DeleteFunc(visibleNames(env), func(n name) bool {
		return n.kind == ofHandler || n.kind != ofAny && (n.t.Kind != api.TFun || !sameGoal(n.t.L[1], t))
	})
	if len(l) == 0 {
		return m.atom(t, env)
	}
	switch n := l[m.Intn(len(l))]; n.kind {
	case ofAny:
		return app(v(n.text), m.typed(t, depth, env))
	case ofResumption:
		return api.Expr{Kind: api.Resume, S: n.text, L: []api.Expr{m.typed(n.t.L[0], depth, env)}}
	default:
		return app(v(n.text), m.typed(n.t.L[0], depth, env))
	}
}

// lets returns a Let or a Rec.
func (m maker) lets(t api.Type, depth int, env []name) api.Expr {
	x := m.variable()
	switch m.Intn(5) {
	case 0:
		id := must(m.of("fun x -> x", "fun x -> let y = x in y", "fun f -> (fun y -> f) 1", "(fun x -> x) (fun x -> x)", "rec f y = (if true then y else f y) in f", "fun x -> if true then x else (match Some[x] { None -> x; Some y -> y })"))
		return let(x, id, m.typed(t, depth, bind(env, name{text: x, kind: ofAny})))
	case 1:
		f, a, b := m.variable(), m.goal(1), m.goal(1)
		for f == x {
			f = m.variable()
		}
		in := name{text: f, t: fun(a, closed(), b)}
		return api.Expr{Kind: api.Rec, Names: []string{f, x}, L: []api.Expr{m.typed(b, depth, bind(env, in, name{text: x, t: a})), m.typed(t, depth, bind(env, in))}}
	}
	a := m.goal(2)
	return let(x, m.typed(a, depth, env), m.typed(t, depth, bind(env, name{text: x, t: a})))
}

// matches returns a Match.
func (m maker) matches(t api.Type, depth int, env []name) api.Expr {
	a, b := m.goal(1), m.goal(1)
	x, y := m.variable(), m.variable()
	for x == y {
		y = m.variable()
	}
	e := api.Expr{Kind: api.Match}
	switch m.Intn(3) {
	case 0:
		e.L = []api.Expr{m.typed(data("List", a), depth, env)}
		e.Arms = []api.Arm{arm("Nil", m.typed(t, depth, env)), arm("Cons", m.typed(t, depth, bind(env, name{text: x, t: a}, name{text: y, t: data("List", a)})), x, y)}
	case 1:
		e.L = []api.Expr{m.typed(data("Pair", a, b), depth, env)}
		e.Arms = []api.Arm{arm("Pair", m.typed(t, depth, bind(env, name{text: x, t: a}, name{text: y, t: b})), x, y)}
	default:
		e.L = []api.Expr{m.typed(data("Opt", a), depth, env)}
		e.Arms = []api.Arm{arm("None", m.typed(t, depth, env)), arm("Some", m.typed(t, depth, bind(env, name{text: x, t: a})), x)}
	}
	return e
}

// effect returns a Do, an At, a Mask, a Using or a Drop.
func (m maker) effect(t api.Type, depth int, env []name) api.Expr {
	n := m.Intn(12)
	all := allEffects()
	if n == 0 {
		return api.Expr{Kind: api.Mask, S: all[m.Intn(len(all))].Name, L: []api.Expr{m.typed(t, depth, env)}}
	}
	if n == 1 {
		a, x := m.goal(1), m.variable()
		names := []string{x}
		for _, i := range m.Perm(len(all) - 1)[:m.Intn(4)] {
			names = append(names, all[i].Name)
		}
		return api.Expr{Kind: api.Using, Names: names, L: []api.Expr{m.typed(a, depth, env), m.typed(fun(a, closed(), tunit), depth, env), m.typed(t, depth, bind(env, name{text: x, t: a}))}}
	}
	if n <= 3 && t.Kind == api.TUnit {
		for _, b := range visibleNames(env) {
			if b.kind == ofResumption || m.Intn(3000) < m.wrong && b.kind != ofHandler {
				return api.Expr{Kind: api.Drop, S: b.text}
			}
		}
	}
	var l []api.Expr
	for _, f := range all {
		for _, o := range f.Ops {
			if !sameGoal(o.Res, t) && m.Intn(1000) >= m.wrong {
				continue
			}
			l = append(l, do(o.Name, m.typed(o.Arg, depth, env)))
			for _, b := range visibleNames(env) {
				if b.kind == ofHandler && (b.effect == f.Name || m.Intn(3000) < m.wrong) {
					l = append(l, api.Expr{Kind: api.At, S: b.text, T: o.Name, L: []api.Expr{m.typed(o.Arg, depth, env)}}, l[len(l)-1])
				}
			}
		}
	}
	if len(l) == 0 {
		return m.plain(t, depth, env)
	}
	return l[m.Intn(len(l))]
}

// handler returns a Handle or a Named.
func (m maker) handler(t api.Type, depth int, env []name) api.Expr {
	all := allEffects()
	f := all[m.Intn(len(all))]
	e := api.Expr{Kind: api.Handle, S: f.Name, N: m.Intn(5) / 4}
	body, inside := t, env
	if m.Intn(3) == 0 {
		body = m.goal(1)
	}
	if m.Intn(3) == 0 {
		h := m.of("h", "g", "h1")
		e = api.Expr{Kind: api.Named, S: f.Name, Names: []string{h}}
		inside = bind(env, name{text: h, kind: ofHandler, effect: f.Name})
	}
	e.L = []api.Expr{m.typed(body, depth, inside)}
	x := m.variable()
	e.Arms = []api.Arm{arm("return", m.typed(t, depth, bind(env, name{text: x, t: body})), x)}
	for _, o := range f.Ops {
		x, k := m.variable(), m.variable()
		for k == x {
			k = m.variable()
		}
		yields := t
		if e.N == 1 {
			yields = body
		}
		resumed := name{text: k, t: fun(o.Res, closed(), yields)}
		if o.Once {
			resumed.kind = ofResumption
		}
		e.Arms = append(e.Arms, arm(o.Name, m.typed(t, depth, bind(env, name{text: x, t: o.Arg}, resumed)), x, k))
	}
	return e
}

// handled returns an expression within handlers of all effects but IO.
func (m maker) handled(x api.Expr) api.Expr {
	for _, text := range []string{
		"handle State () { return x -> x; get u k -> k 1; put v k -> k () }", "handle Ask () { return x -> x; ask a k -> k a }", "handle Amb () { return x -> x; flip u k -> if true then k true else k false }",
		"handle Tick () { return x -> x; tick u k -> resume k 3; halt n k -> let z = drop k in (rec f x = f x in f n) }", "handle Call () { return x -> x; call f k -> k 3 }", "handle Nop () { return x -> x }",
	} {
		h := must(text)
		h.L[0] = x
		x = h
	}
	return x
}

// program returns a program.
func (m maker) program() api.Program {
	p := api.Program{Data: declared.Data, Effects: declared.Effects}
	var env []name
	for range m.Intn(3) {
		d := name{text: m.variable(), t: m.goal(2)}
		p.Defs = append(p.Defs, api.Def{Name: d.text, Body: m.typed(d.t, 3, env)})
		env = bind(env, d)
	}
	p.Main = m.handled(m.typed(m.goal(1), 4, env))
	return p
}

// declared are the declarations, as a program whose main is the unit.
var declared = func() api.Program {
	p, _, e := syntax.Parse(head + "main ()")
	if e != api.OK {
		panic(e)
	}
	return p
}()

// io is the effect that every program has.
var io = api.Effect{Name: api.IO, Ops: []api.Op{{Name: api.Print, Arg: tint, Res: tunit, Once: true}, {Name: api.Read, Arg: tunit, Res: tint, Once: true}}}

// must returns the expression of a text that is one.
func must(text string) api.Expr {
	x, _, e := syntax.ParseExpr(text)
	if e != api.OK {
		panic(text)
	}
	return x
}
