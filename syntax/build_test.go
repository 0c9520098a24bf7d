package syntax_test

import (
	"math/rand"
	"reflect"
	"slices"
	"strconv"
	"strings"

	"reprise/api"
)

// Names of the classes, and strings of none.
var (
	someVars   = []string{"x", "y", "k1", "_", "op", "t1", "r2", "h", "abcdefghijkl"}
	someUppers = []string{"A", "E", "List", "Cons_2", "Abcdefghijkl", "Int", "Bool", "Unit", "Return"}
	someWrong  = []string{"", "1", "x y", "fun", "return", "+", "==", "<=", "é", "abcdefghijklm", "Abcdefghijklm", "x.", "-"}
	someNs     = []int{0, 1, 2, -1, 5, api.MaxInt, api.MaxInt + 1, -api.MaxInt, -api.MaxInt - 1, 1 << 62}
)

func v(s string) api.Expr               { return api.Expr{Kind: api.Var, S: s} }
func num(n int) api.Expr                { return api.Expr{Kind: api.Int, N: n} }
func boolean(n int) api.Expr            { return api.Expr{Kind: api.Bool, N: n} }
func unit() api.Expr                    { return api.Expr{Kind: api.Unit} }
func names(l ...string) []string        { return l }
func fun(x string, b api.Expr) api.Expr { return api.Expr{Kind: api.Fun, Names: names(x), L: exprs(b)} }
func app(f, x api.Expr) api.Expr        { return api.Expr{Kind: api.App, L: exprs(f, x)} }
func exprs(l ...api.Expr) []api.Expr    { return l }
func arms(l ...api.Arm) []api.Arm       { return l }
func let(x string, d, b api.Expr) api.Expr {
	return api.Expr{Kind: api.Let, Names: names(x), L: exprs(d, b)}
}
func rec(f, x string, d, b api.Expr) api.Expr {
	return api.Expr{Kind: api.Rec, Names: names(f, x), L: exprs(d, b)}
}
func cond(c, a, b api.Expr) api.Expr { return api.Expr{Kind: api.If, L: exprs(c, a, b)} }
func prim(op string, a, b api.Expr) api.Expr {
	return api.Expr{Kind: api.Prim, S: op, L: exprs(a, b)}
}
func con(s string, l ...api.Expr) api.Expr { return api.Expr{Kind: api.Con, S: s, L: l} }
func match(e api.Expr, l ...api.Arm) api.Expr {
	return api.Expr{Kind: api.Match, L: exprs(e), Arms: l}
}
func do(op string, e api.Expr) api.Expr { return api.Expr{Kind: api.Do, S: op, L: exprs(e)} }
func at(h, op string, e api.Expr) api.Expr {
	return api.Expr{Kind: api.At, S: h, T: op, L: exprs(e)}
}
func handle(n int, s string, e api.Expr, l ...api.Arm) api.Expr {
	return api.Expr{Kind: api.Handle, N: n, S: s, L: exprs(e), Arms: l}
}
func named(h, s string, e api.Expr, l ...api.Arm) api.Expr {
	return api.Expr{Kind: api.Named, S: s, Names: names(h), L: exprs(e), Arms: l}
}
func mask(s string, e api.Expr) api.Expr   { return api.Expr{Kind: api.Mask, S: s, L: exprs(e)} }
func resume(s string, e api.Expr) api.Expr { return api.Expr{Kind: api.Resume, S: s, L: exprs(e)} }
func drop(s string) api.Expr               { return api.Expr{Kind: api.Drop, S: s} }
func using(l []string, r, c, b api.Expr) api.Expr {
	return api.Expr{Kind: api.Using, Names: l, L: exprs(r, c, b)}
}
func arm(op string, b api.Expr, l ...string) api.Arm { return api.Arm{Op: op, Names: l, Body: b} }
func ret(b api.Expr) api.Arm                         { return arm("return", b, "x") }

func tvar(n int) api.Type                   { return api.Type{Kind: api.TVar, N: n} }
func param(s string) api.Type               { return api.Type{Kind: api.TParam, S: s} }
func data(s string, l ...api.Type) api.Type { return api.Type{Kind: api.TData, S: s, L: l} }
func arrow(a api.Type, r api.Row, b api.Type) api.Type {
	return api.Type{Kind: api.TFun, L: []api.Type{a, b}, Row: r}
}
func row(tail int, l ...api.Label) api.Row { return api.Row{Labels: l, Tail: tail} }
func label(s string, n int) api.Label      { return api.Label{S: s, N: n} }
func pure(a, b api.Type) api.Type          { return arrow(a, row(-1), b) }

var (
	tint  = api.Type{Kind: api.TInt}
	tbool = api.Type{Kind: api.TBool}
	tunit = api.Type{Kind: api.TUnit}
)

// onePerKind has a well-formed node of each kind, in the order of the kinds.
func onePerKind() []api.Expr {
	return exprs(v("x"), num(7), boolean(1), unit(), fun("x", v("x")), app(v("f"), v("x")), let("x", num(1), v("x")),
		rec("f", "x", v("f"), v("f")), cond(boolean(0), num(1), num(2)), prim("*", num(1), num(2)), con("Cons", num(1), num(2)),
		match(v("l"), arm("Nil", num(0)), arm("Cons", v("h"), "h", "t")), do("op", unit()), at("h", "op", unit()),
		handle(0, "E", unit(), ret(v("x")), arm("op", v("k"), "a", "k")), named("h", "E", unit(), ret(v("x")), arm("op", v("k"), "a", "k")),
		mask("E", unit()), using(names("x", "E", "F"), num(1), v("c"), v("x")), resume("k", unit()), drop("k"))
}

// chain returns n nodes within each other.
func chain(n int) api.Expr {
	e := unit()
	for range n - 1 {
		e = fun("x", e)
	}
	return e
}

// wide returns an expression of n nodes, without depth.
func wide(n int) api.Expr {
	if n <= 4 {
		return chain(n)
	}
	m := n - 1
	return con("C", wide(m/4), wide(m/4), wide(m/4), wide(m-3*(m/4)))
}

// typeChain and wideType are types of the same form.
func typeChain(n int) api.Type {
	t := tint
	for range n - 1 {
		t = data("List", t)
	}
	return t
}

func wideType(n int) api.Type {
	if n <= 4 {
		return typeChain(n)
	}
	m := n - 1
	return data("D", wideType(m/4), wideType(m/4), wideType(m/4), wideType(m-3*(m/4)))
}

// maker makes random trees that are well formed.
type maker struct {
	*rand.Rand
}

func newMaker(seed int64) maker { return maker{rand.New(rand.NewSource(seed))} }

func (m maker) of(l []string) string { return l[m.Intn(len(l))] }

// distinct returns n different names.
func (m maker) distinct(l []string, n int) []string {
	var out []string
	for _, i := range m.Perm(len(l))[:n] {
		out = append(out, l[i])
	}
	return out
}

// expr returns an expression of at most a depth.
func (m maker) expr(depth int) api.Expr {
	kind := api.Kind(m.Intn(20))
	if depth <= 1 {
		kind = []api.Kind{api.Var, api.Int, api.Bool, api.Unit, api.Con, api.Drop}[m.Intn(6)]
	}
	e := api.Expr{Kind: kind}
	parts := []int{0, 0, 0, 0, 1, 2, 2, 2, 3, 2, m.Intn(api.MaxArgs + 1), 1, 1, 1, 1, 1, 1, 3, 1, 0}[kind]
	for range parts {
		if depth > 1 {
			e.L = append(e.L, m.expr(depth-1-m.Intn(2)))
		}
	}
	switch kind {
	case api.Int:
		e.N = []int{0, 1, -1, 42, api.MaxInt, -api.MaxInt}[m.Intn(6)]
	case api.Bool, api.Handle:
		e.N = m.Intn(2)
	case api.Fun, api.Let, api.Named:
		e.Names = m.distinct(someVars, 1)
	case api.Rec:
		e.Names = m.distinct(someVars, 2)
	case api.Using:
		e.Names = append(m.distinct(someVars, 1), m.distinct(someUppers, m.Intn(4))...)
	}
	switch kind {
	case api.Var, api.Drop, api.Do, api.Resume:
		e.S = m.of(someVars)
	case api.At:
		e.S, e.T = m.of(someVars), m.of(someVars)
	case api.Con, api.Mask, api.Handle, api.Named:
		e.S = m.of(someUppers)
	case api.Prim:
		e.S = m.of([]string{"+", "-", "*", "<", "=="})
	}
	e.Arms = m.arms(kind, depth-1)
	return e
}

// arms returns arms for a kind of nodes.
func (m maker) arms(kind api.Kind, depth int) (l []api.Arm) {
	switch kind {
	case api.Match:
		for _, op := range m.distinct(someUppers, m.Intn(4)) {
			l = append(l, arm(op, m.expr(depth), m.distinct(someVars, m.Intn(api.MaxArgs+1))...))
		}
	case api.Handle, api.Named:
		l = arms(arm("return", m.expr(depth), m.of(someVars)))
		for _, op := range m.distinct(someVars, m.Intn(3)) {
			l = append(l, arm(op, m.expr(depth), m.distinct(someVars, 2)...))
		}
	}
	return l
}

// typ returns a type of at most a depth, one of a declaration or any.
func (m maker) typ(depth int, declared bool) api.Type {
	kind := api.TypeKind(m.Intn(9))
	if kind > api.TData {
		kind = api.TFun
	}
	if depth <= 1 || declared && kind == api.TVar {
		kind = []api.TypeKind{api.TParam, api.TInt, api.TBool, api.TUnit, api.TData}[m.Intn(5)]
	}
	t := api.Type{Kind: kind}
	switch kind {
	case api.TVar:
		t.N = []int{0, 3, 10, api.MaxInt}[m.Intn(4)]
	case api.TParam:
		t.S = m.of([]string{"a", "b", "t", "t01", "tx", "t1x", "s1", "r1", "t1000000000"})
	case api.TFun:
		t.L = []api.Type{m.typ(depth-1, declared), m.typ(depth-1, declared)}
		t.Row = m.row(declared)
	case api.TData:
		t.S = m.of([]string{"A", "List", "Int2", "Abcdefghijkl"})
		if depth > 1 {
			for range m.Intn(api.MaxArgs + 1) {
				t.L = append(t.L, m.typ(depth-1, declared))
			}
		}
	}
	return t
}

func (m maker) row(declared bool) api.Row {
	r := api.Row{Tail: -1}
	for range m.Intn(4) {
		l := label(m.of(someUppers), 0)
		if !declared && m.Intn(3) == 0 {
			l.N = []int{1, 12, api.MaxInt}[m.Intn(3)]
		}
		r.Labels = append(r.Labels, l)
	}
	if !declared && m.Intn(2) == 0 {
		r.Tail = []int{0, 2, api.MaxInt}[m.Intn(3)]
	}
	return r
}

// program returns a program.
func (m maker) program() api.Program {
	var p api.Program
	for range m.Intn(4) {
		d := api.Data{Name: m.of(someUppers), Params: m.distinct(someVars, m.Intn(api.MaxArgs+1))}
		for range m.Intn(4) {
			c := api.Cons{Name: m.of(someUppers)}
			for range m.Intn(api.MaxArgs + 1) {
				c.Args = append(c.Args, m.typ(3, true))
			}
			d.Cons = append(d.Cons, c)
		}
		p.Data = append(p.Data, d)
	}
	for range m.Intn(4) {
		f := api.Effect{Name: m.of(someUppers)}
		for range m.Intn(4) {
			f.Ops = append(f.Ops, api.Op{Name: m.of(someVars), Arg: m.typ(3, true), Res: m.typ(3, true), Once: m.Intn(2) == 0})
		}
		p.Effects = append(p.Effects, f)
	}
	for range m.Intn(4) {
		p.Defs = append(p.Defs, api.Def{Name: m.of(someVars), Body: m.expr(3)})
	}
	p.Main = m.expr(4)
	return p
}

// anyString returns a string of any class.
func (m maker) anyString() string {
	return m.of([][]string{someVars, someUppers, someWrong}[m.Intn(3)])
}

// spoil changes a node of an expression, which may then still be well formed.
func (m maker) spoil(e *api.Expr) {
	var parts []*api.Expr
	for i := range e.L {
		parts = append(parts, &e.L[i])
	}
	for i := range e.Arms {
		parts = append(parts, &e.Arms[i].Body)
	}
	if len(parts) > 0 && m.Intn(3) > 0 {
		m.spoil(parts[m.Intn(len(parts))])
		return
	}
	switch m.Intn(9) {
	case 0:
		e.Kind = api.Kind(m.Intn(23) - 1)
	case 1:
		e.N = someNs[m.Intn(len(someNs))]
	case 2:
		e.S = m.anyString()
	case 3:
		e.T = m.anyString()
	case 4, 5:
		e.Names = m.spoilNames(e.Names)
	case 6:
		if len(e.L) > 0 && m.Intn(2) == 0 {
			e.L = e.L[1:]
		} else {
			e.L = append(e.L, unit())
		}
	default:
		m.spoilArms(e)
	}
}

func (m maker) spoilNames(l []string) []string {
	l = slices.Clone(l)
	switch {
	case len(l) == 0 || m.Intn(4) == 0:
		return append(l, m.anyString())
	case m.Intn(3) == 0:
		return l[1:]
	case m.Intn(2) == 0:
		l[m.Intn(len(l))] = l[m.Intn(len(l))]
	default:
		l[m.Intn(len(l))] = m.anyString()
	}
	return l
}

func (m maker) spoilArms(e *api.Expr) {
	i := 0
	if len(e.Arms) > 0 {
		i = m.Intn(len(e.Arms))
	}
	switch {
	case len(e.Arms) == 0 || m.Intn(5) == 0:
		e.Arms = append(e.Arms, arm(m.anyString(), unit(), m.distinct(someVars, m.Intn(6))...))
	case m.Intn(4) == 0:
		e.Arms = slices.Delete(e.Arms, i, i+1)
	case m.Intn(3) == 0:
		e.Arms[i].Op = m.anyString()
	case m.Intn(2) == 0:
		e.Arms[i].Op = e.Arms[m.Intn(len(e.Arms))].Op
	default:
		e.Arms[i].Names = m.spoilNames(e.Arms[i].Names)
	}
}

// spoilType changes a node of a type.
func (m maker) spoilType(t *api.Type) {
	if len(t.L) > 0 && m.Intn(3) > 0 {
		m.spoilType(&t.L[m.Intn(len(t.L))])
		return
	}
	switch m.Intn(7) {
	case 0:
		t.Kind = api.TypeKind(m.Intn(9) - 1)
	case 1:
		t.N = someNs[m.Intn(len(someNs))]
	case 2:
		t.S = m.anyString()
	case 3:
		if len(t.L) > 0 && m.Intn(2) == 0 {
			t.L = t.L[1:]
		} else {
			t.L = append(t.L, tint)
		}
	case 4:
		t.Row.Tail = append(someNs, -2)[m.Intn(len(someNs)+1)]
	default:
		n := 1 + m.Intn(3)
		if m.Intn(10) == 0 {
			n = 24 + m.Intn(2)
		}
		for range n {
			t.Row.Labels = append(t.Row.Labels, label(m.of(append(someUppers, m.anyString())), someNs[m.Intn(len(someNs))]))
		}
	}
}

// spoilProgram changes something in a program.
func (m maker) spoilProgram(p *api.Program) {
	if len(p.Data) > 0 && m.Intn(3) == 0 {
		d := &p.Data[m.Intn(len(p.Data))]
		switch m.Intn(4) {
		case 0:
			d.Name = m.anyString()
		case 1:
			d.Params = m.spoilNames(d.Params)
		case 2:
			d.Cons = append(d.Cons, api.Cons{Name: m.anyString(), Args: slices.Repeat([]api.Type{tint}, m.Intn(6))})
		default:
			for i := range d.Cons {
				for j := range d.Cons[i].Args {
					m.spoilType(&d.Cons[i].Args[j])
				}
			}
		}
		return
	}
	if len(p.Effects) > 0 && m.Intn(2) == 0 {
		f := &p.Effects[m.Intn(len(p.Effects))]
		switch {
		case m.Intn(4) == 0:
			f.Name = m.anyString()
		case m.Intn(4) == 0:
			f.Ops = append(f.Ops, api.Op{Name: m.anyString(), Arg: tint, Res: tvar(m.Intn(2))})
		case len(f.Ops) > 0 && m.Intn(2) == 0:
			m.spoilType(&f.Ops[m.Intn(len(f.Ops))].Arg)
		case len(f.Ops) > 0:
			m.spoilType(&f.Ops[m.Intn(len(f.Ops))].Res)
		}
		return
	}
	if len(p.Defs) > 0 && m.Intn(2) == 0 {
		d := &p.Defs[m.Intn(len(p.Defs))]
		if m.Intn(2) == 0 {
			d.Name = m.anyString()
		} else {
			m.spoil(&d.Body)
		}
		return
	}
	m.spoil(&p.Main)
}

// copied returns a deep copy of any tree.
func copied[T any](x T) T {
	out := reflect.New(reflect.TypeOf(x)).Elem()
	deepCopy(out, reflect.ValueOf(x))
	return out.Interface().(T)
}

func deepCopy(to, from reflect.Value) {
	switch from.Kind() {
	case reflect.Slice:
		if from.IsNil() {
			return
		}
		to.Set(reflect.MakeSlice(from.Type(), from.Len(), from.Len()))
		for i := range from.Len() {
			deepCopy(to.Index(i), from.Index(i))
		}
	case reflect.Struct:
		for i := range from.NumField() {
			deepCopy(to.Field(i), from.Field(i))
		}
	default:
		to.Set(from)
	}
}

// emptied returns a copy of a tree with empty lists in the place of nil ones.
func emptied[T any](x T) T {
	out := copied(x)
	fillEmpty(reflect.ValueOf(&out).Elem())
	return out
}

func fillEmpty(x reflect.Value) {
	switch x.Kind() {
	case reflect.Slice:
		if x.IsNil() {
			x.Set(reflect.MakeSlice(x.Type(), 0, 0))
		}
		for i := range x.Len() {
			fillEmpty(x.Index(i))
		}
	case reflect.Struct:
		for i := range x.NumField() {
			fillEmpty(x.Field(i))
		}
	}
}

// places returns where the slices of a tree begin, and whether an empty one of them is not nil.
func places(x any) (l []uintptr, empty bool) {
	var walk func(x reflect.Value)
	walk = func(x reflect.Value) {
		switch x.Kind() {
		case reflect.Slice:
			if x.Len() == 0 {
				empty = empty || !x.IsNil()
				return
			}
			l = append(l, x.Pointer())
			for i := range x.Len() {
				walk(x.Index(i))
			}
		case reflect.Struct:
			for i := range x.NumField() {
				walk(x.Field(i))
			}
		}
	}
	walk(reflect.ValueOf(x))
	return l, empty
}

// modelExpr returns the tokens of an expression where a rule of the grammar is asked for. A token that is set otherwise than others of the same bytes has a letter and a colon ahead: c:[ stands behind a constructor, r:< and r:> around a row.
func modelExpr(e api.Expr, asked string) []string {
	const rules = "expr compare sum product call atom"
	ranks := strings.Fields(rules)
	own := "atom"
	switch e.Kind {
	case api.Fun, api.Let, api.Rec, api.If, api.Using:
		own = "expr"
	case api.Prim:
		own = map[string]string{"<": "compare", "==": "compare", "+": "sum", "-": "sum", "*": "product"}[e.S]
	case api.App, api.Do, api.At, api.Mask, api.Resume, api.Drop:
		own = "call"
	}
	l := modelBare(e)
	if slices.Index(ranks, own) < slices.Index(ranks, asked) {
		return tokens("(", l, ")")
	}
	return l
}

// tokens appends tokens and lists of them.
func tokens(l ...any) (out []string) {
	for _, x := range l {
		switch y := x.(type) {
		case string:
			out = append(out, y)
		case []string:
			out = append(out, y...)
		}
	}
	return out
}

// joined puts a token between lists of tokens.
func joined(separator string, l [][]string) (out []string) {
	for i, x := range l {
		if i > 0 {
			out = append(out, separator)
		}
		out = append(out, x...)
	}
	return out
}

func modelBare(e api.Expr) []string {
	part := func(i int, rule string) []string { return modelExpr(e.L[i], rule) }
	switch e.Kind {
	case api.Var:
		return tokens(e.S)
	case api.Int:
		if e.N < 0 {
			return tokens("(" + strconv.Itoa(e.N) + ")")
		}
		return tokens(strconv.Itoa(e.N))
	case api.Bool:
		return tokens(strconv.FormatBool(e.N == 1))
	case api.Unit:
		return tokens("(", ")")
	case api.Fun:
		return tokens("fun", e.Names, "->", part(0, "expr"))
	case api.App:
		return tokens(part(0, "call"), part(1, "atom"))
	case api.Let:
		return tokens("let", e.Names, "=", part(0, "expr"), "in", part(1, "expr"))
	case api.Rec:
		return tokens("rec", e.Names, "=", part(0, "expr"), "in", part(1, "expr"))
	case api.If:
		return tokens("if", part(0, "expr"), "then", part(1, "expr"), "else", part(2, "expr"))
	case api.Prim:
		switch e.S {
		case "*":
			return tokens(part(0, "product"), e.S, part(1, "call"))
		case "+", "-":
			return tokens(part(0, "sum"), e.S, part(1, "product"))
		}
		return tokens(part(0, "sum"), e.S, part(1, "sum"))
	case api.Con:
		if len(e.L) == 0 {
			return tokens(e.S)
		}
		var l [][]string
		for i := range e.L {
			l = append(l, part(i, "expr"))
		}
		return tokens(e.S, "c:[", joined(",", l), "]")
	case api.Do:
		return tokens("do", e.S, part(0, "atom"))
	case api.At:
		return tokens(e.S, ".", e.T, part(0, "atom"))
	case api.Mask:
		return tokens("mask", e.S, part(0, "atom"))
	case api.Resume:
		return tokens("resume", e.S, part(0, "atom"))
	case api.Drop:
		return tokens("drop", e.S)
	case api.Using:
		var l [][]string
		for _, s := range e.Names[1:] {
			l = append(l, tokens(s))
		}
		return tokens("using", e.Names[0], "[", joined(",", l), "]", "=", part(0, "expr"), "close", part(1, "expr"), "in", part(2, "expr"))
	}
	return modelBraced(e)
}

// modelBraced has the tokens of nodes with arms.
func modelBraced(e api.Expr) []string {
	var l [][]string
	for _, a := range e.Arms {
		l = append(l, tokens(a.Op, a.Names, "->", modelExpr(a.Body, "expr")))
	}
	body, clauses := modelExpr(e.L[0], "expr"), tokens("{", joined(";", l), "}")
	switch {
	case e.Kind == api.Match:
		return tokens("match", body, clauses)
	case e.Kind == api.Named:
		return tokens("named", e.Names, e.S, body, clauses)
	case e.N == 1:
		return tokens("shallow", e.S, body, clauses)
	}
	return tokens("handle", e.S, body, clauses)
}

// modelType is the same for types.
func modelType(t api.Type, asked string) []string {
	switch {
	case t.Kind == api.TFun && asked != "type", t.Kind == api.TData && len(t.L) > 0 && asked == "single":
		return tokens("(", modelType(t, "type"), ")")
	}
	switch t.Kind {
	case api.TVar:
		return tokens("t" + strconv.Itoa(t.N))
	case api.TInt:
		return tokens("Int")
	case api.TBool:
		return tokens("Bool")
	case api.TUnit:
		return tokens("Unit")
	case api.TFun:
		return tokens(modelType(t.L[0], "applied"), "->", modelRow(t.Row), modelType(t.L[1], "type"))
	}
	out := tokens(t.S)
	for _, x := range t.L {
		out = tokens(out, modelType(x, "single"))
	}
	return out
}

func modelRow(r api.Row) []string {
	if len(r.Labels) == 0 && r.Tail == -1 {
		return nil
	}
	var l [][]string
	for _, x := range r.Labels {
		if x.N == 0 {
			l = append(l, tokens(x.S))
		} else {
			l = append(l, tokens(x.S, "@", strconv.Itoa(x.N)))
		}
	}
	if r.Tail == -1 {
		return tokens("r:<", joined(",", l), "r:>")
	}
	return tokens("r:<", joined(",", l), "|", "r"+strconv.Itoa(r.Tail), "r:>")
}

// modelLines are the lines of a program, as tokens.
func modelLines(p api.Program) (lines [][]string) {
	for _, d := range p.Data {
		var l [][]string
		for _, c := range d.Cons {
			x := tokens(c.Name)
			for _, t := range c.Args {
				x = tokens(x, modelType(t, "single"))
			}
			l = append(l, x)
		}
		lines = append(lines, tokens("data", d.Name, d.Params, "{", joined(";", l), "}"))
	}
	for _, f := range p.Effects {
		var l [][]string
		for _, o := range f.Ops {
			x := tokens(o.Name, ":", modelType(o.Arg, "applied"), "->", modelType(o.Res, "applied"))
			if o.Once {
				x = tokens("once", x)
			}
			l = append(l, x)
		}
		lines = append(lines, tokens("effect", f.Name, "{", joined(";", l), "}"))
	}
	for _, d := range p.Defs {
		lines = append(lines, tokens("def", d.Name, "=", modelExpr(d.Body, "expr")))
	}
	return append(lines, tokens("main", modelExpr(p.Main, "expr")))
}

// plain returns the bytes of a token of the model.
func plain(token string) string {
	if len(token) > 2 && token[1] == ':' {
		return token[2:]
	}
	return token
}

// set sets tokens as the section Printing says.
func set(l []string) string {
	var b strings.Builder
	for i, s := range l {
		if i > 0 {
			last := l[i-1]
			behind := strings.HasSuffix(last, "(") || strings.HasSuffix(last, "[") || last == "r:<" || last == "." || last == "@"
			ahead := slices.Contains([]string{")", "]", ",", ";", "r:>", ".", "@", "c:["}, s)
			if !behind && !ahead {
				b.WriteByte(' ')
			}
		}
		b.WriteString(plain(s))
	}
	return b.String()
}

// setLines sets the lines of a program.
func setLines(lines [][]string) string {
	var b strings.Builder
	for _, l := range lines {
		b.WriteString(set(l) + "\n")
	}
	return b.String()
}
