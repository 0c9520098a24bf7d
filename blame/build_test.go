package blame_test

import (
	"math/rand"
	"reflect"
	"slices"
	"strings"
	"testing"

	"reprise/api"
	"reprise/syntax"
)

// head is the declarations of most tests.
const head = `data Opt a { None; Some a }
data Pair a b { Pair a b }
data Void { }
effect Ask { ask : Int -> Int }
effect Tick { once tick : Unit -> Int }
effect Nop { }
effect Call { call : (Int -> <Ask> Opt Int) -> Int }
`

// parsed returns the program of a text behind the declarations.
func parsed(t testing.TB, text string) api.Program {
	t.Helper()
	p, at, e := syntax.Parse(head + text)
	if e != api.OK {
		t.Fatalf("%q: %d at %d", text, e, at-len(head))
	}
	return p
}

// expr returns the expression of a text.
func expr(t testing.TB, text string) api.Expr {
	t.Helper()
	x, at, e := syntax.ParseExpr(text)
	if e != api.OK {
		t.Fatalf("%q: %d at %d", text, e, at)
	}
	return x
}

// printed returns the definitions and the main expression of a program as text.
func printed(p api.Program) string {
	text, e := syntax.Print(p)
	if e != api.OK {
		return "not well formed"
	}
	return strings.TrimPrefix(text, head)
}

// places returns places that are written as their digits, with blanks in between.
func places(text string) (l [][]int) {
	for _, word := range strings.Fields(text) {
		var place []int
		for _, c := range word {
			place = append(place, int(c-'0'))
		}
		l = append(l, place)
	}
	return l
}

// copied returns a deep copy of anything; with empty, its empty lists are not nil.
func copied[T any](x T, empty bool) T {
	out := reflect.New(reflect.TypeOf(x)).Elem()
	deepCopy(out, reflect.ValueOf(x), empty)
	return out.Interface().(T)
}

func deepCopy(to, from reflect.Value, empty bool) {
	switch from.Kind() {
	case reflect.Slice:
		if from.Len() == 0 && !empty {
			return
		}
		to.Set(reflect.MakeSlice(from.Type(), from.Len(), from.Len()))
		for i := range from.Len() {
			deepCopy(to.Index(i), from.Index(i), empty)
		}
	case reflect.Struct:
		for i := range from.NumField() {
			deepCopy(to.Field(i), from.Field(i), empty)
		}
	default:
		to.Set(from)
	}
}

// same reports whether two values are equal, where nil and empty lists are.
func same[T any](x, y T) bool { return reflect.DeepEqual(copied(x, false), copied(y, false)) }

// shared reports whether two lists within values lie at the same place in memory.
func shared(l ...any) bool {
	seen, twice := map[uintptr]bool{}, false
	var look func(x reflect.Value)
	look = func(x reflect.Value) {
		switch x.Kind() {
		case reflect.Slice:
			if x.Cap() == 0 {
				return
			}
			twice = twice || seen[x.Pointer()]
			seen[x.Pointer()] = true
			for i := range x.Len() {
				look(x.Index(i))
			}
		case reflect.Struct:
			for i := range x.NumField() {
				look(x.Field(i))
			}
		}
	}
	for _, x := range l {
		look(reflect.ValueOf(x))
	}
	return twice
}

// name is a name that an expression is made with: what it is, and a type.
type name struct {
	text string
	is   meaning
	t    string
}

type meaning int

const (
	variable meaning = iota // of the type
	identity                // of every function type from something to itself
	resumes                 // of the function type from Int to the type
	once                    // a one-shot resumption that takes an Int and yields the type
	handler                 // of Ask
)

// maker makes texts of random programs that often have types. Their names are few, so that they often hide each other.
type maker struct {
	*rand.Rand
	wrong int // how many of 1000 parts are of any type
}

func newMaker(seed int64, wrong int) maker { return maker{rand.New(rand.NewSource(seed)), wrong} }

func (m maker) of(l ...string) string { return l[m.Intn(len(l))] }

func (m maker) variable() string { return m.of("x", "y", "f", "g", "k", "hole") }

// two returns two different variables.
func (m maker) two() (x, y string) {
	for x == y {
		x, y = m.variable(), m.variable()
	}
	return x, y
}

// goal returns a type for an expression: opt is that of an Int that may be lacking, fun that of a function on Ints, and pair that of an opt and a fun.
func (m maker) goal() string { return m.of("int", "int", "int", "bool", "unit", "opt", "fun", "pair") }

// effect returns an effect that is not IO.
func (m maker) effect() string { return m.of("Ask", "Tick", "Nop") }

// visible returns the names that no other one hides.
func visible(env []name) (l []name) {
	for i, n := range env {
		hides := func(o name) bool { return o.text == n.text && (o.is == handler) == (n.is == handler) }
		if !slices.ContainsFunc(env[i+1:], hides) {
			l = append(l, n)
		}
	}
	return l
}

// part makes an expression of a type, with more names.
type part func(t string, more ...name) string

// expr returns an expression of a type.
func (m maker) expr(t string, depth int, env []name) string {
	if m.Intn(1000) < m.wrong {
		t = m.goal()
	}
	if depth == 0 || m.Intn(6) == 0 {
		return m.small(t, env)
	}
	e := func(t string, more ...name) string { return m.expr(t, depth-1, slices.Concat(env, more)) }
	return []func(string, part, []name) string{m.use, m.use, m.use, m.plain, m.plain, m.plain, m.bind, m.bind, m.perform, m.perform, m.handle, m.handle, m.handle}[m.Intn(13)](t, e, env)
}

// small returns an expression without parts, or nearly so.
func (m maker) small(t string, env []name) string {
	for _, n := range visible(env) {
		if m.Intn(3) > 0 && (n.is == variable && n.t == t || n.is != handler && m.Intn(1000) < m.wrong) {
			return n.text
		}
	}
	switch t {
	case "int":
		return m.of("0", "1", "(-2)")
	case "bool":
		return m.of("true", "false")
	case "unit":
		return "()"
	case "opt":
		return m.of("None", "Some[1]", "Some["+m.small("int", env)+"]")
	case "fun":
		return m.of("(fun x -> x)", "(fun x -> do ask x)", "(fun y -> y + 1)")
	}
	return "Pair[" + m.small("opt", env) + ", " + m.small("fun", env) + "]"
}

// use returns an expression that uses a name.
func (m maker) use(t string, e part, env []name) string {
	var l []string
	for _, n := range visible(env) {
		anyway := m.Intn(1000) < m.wrong
		switch {
		case n.is == handler && (t == "int" || anyway):
			l = append(l, "("+n.text+".ask "+e("int")+")")
		case n.is == variable && n.t == "fun" && t == "int", n.is == resumes && n.t == t, anyway && n.is != handler:
			l = append(l, "("+n.text+" "+e("int")+")")
		case n.is == identity:
			l = append(l, "("+n.text+" "+e(t)+")")
		case n.is == once && n.t == t:
			l = append(l, "(resume "+n.text+" "+e("int")+")")
		case n.is == once && t == "unit":
			l = append(l, "(drop "+n.text+")")
		}
	}
	if len(l) == 0 {
		return m.plain(t, e, env)
	}
	return m.of(l...)
}

// plain returns an expression that binds nothing, or whatever the type asks for.
func (m maker) plain(t string, e part, env []name) string {
	x, y := m.two()
	switch n := m.Intn(6); {
	case n == 0:
		return "(if " + e("bool") + " then " + e(t) + " else " + e(t) + ")"
	case n == 1:
		a := m.goal()
		return "((fun " + x + " -> " + e(t, name{text: x, t: a}) + ") " + e(a) + ")"
	case n == 2:
		return "(match " + e("opt") + " { None -> " + e(t) + "; Some " + x + " -> " + e(t, name{text: x, t: "int"}) + " })"
	case n == 3:
		return "(match " + e("pair") + " { Pair " + x + " " + y + " -> " + e(t, name{text: x, t: "opt"}, name{text: y, t: "fun"}) + " })"
	case t == "int":
		return "(" + e("int") + m.of(" + ", " - ", " * ") + e("int") + ")"
	case t == "bool":
		return "(" + e("int") + m.of(" < ", " == ") + e("int") + ")"
	case t == "opt":
		return "Some[" + e("int") + "]"
	case t == "fun":
		return "(fun " + x + " -> " + e("int", name{text: x, t: "int"}) + ")"
	case t == "pair":
		return "Pair[" + e("opt") + ", " + e("fun") + "]"
	}
	return m.small(t, env)
}

// bind returns a Let or a Rec.
func (m maker) bind(t string, e part, env []name) string {
	x, f := m.two()
	switch a := m.goal(); m.Intn(5) {
	case 0:
		return "(let " + x + " = " + m.of("fun x -> x", "fun y -> let x = y in x", "(fun x -> x) (fun x -> x)") + " in " + e(t, name{text: x, is: identity}) + ")"
	case 1:
		return "(let " + x + " = " + m.small(a, env) + " in " + e(t, name{text: x, t: a}) + ")"
	case 2:
		in := name{text: f, t: "fun"}
		return "(rec " + f + " " + x + " = " + e("int", in, name{text: x, t: "int"}) + " in " + e(t, in) + ")"
	default:
		return "(let " + x + " = " + e(a) + " in " + e(t, name{text: x, t: a}) + ")"
	}
}

// perform returns an expression with an effect.
func (m maker) perform(t string, e part, env []name) string {
	x := m.variable()
	switch n := m.Intn(6); {
	case n == 0:
		return "(mask " + m.of("IO", "Ask", "Tick", "Nop") + " " + e(t) + ")"
	case n == 1:
		a := m.goal()
		return "(using " + x + " [" + m.of("", "", "Ask", "Tick", "Ask, Tick") + "] = " + e(a) + " close fun " + x + " -> " + e("unit", name{text: x, t: a}) + " in " + e(t, name{text: x, t: a}) + ")"
	case t == "int":
		return m.of("(do ask "+e("int")+")", "(do tick "+e("unit")+")", "(do read "+e("unit")+")")
	case t == "unit":
		return "(do print " + e("int") + ")"
	}
	return m.plain(t, e, env)
}

// handle returns a handler.
func (m maker) handle(t string, e part, env []name) string {
	x, k := m.two()
	n, body, yields := name{text: x, t: "int"}, t, t
	if m.Intn(3) == 0 {
		body = m.goal()
	}
	clause := "{ return " + x + " -> " + e(t, name{text: x, t: body})
	kind := m.Intn(8)
	if kind == 0 {
		yields = body
	}
	switch effect := m.effect(); {
	case kind < 4 && kind > 0:
		h := m.of("h", "g")
		inside := e(body, name{text: h, is: handler})
		if body == "int" || m.Intn(1000) < m.wrong {
			inside = "(" + h + ".ask " + inside + ")"
		}
		return "(named " + h + " Ask " + inside + " " + clause + "; ask " + x + " " + k + " -> " + e(t, n, name{k, resumes, t}) + " })"
	case effect == "Nop":
		return "(handle Nop " + e(body) + " " + clause + " })"
	case effect == "Ask":
		return "(" + m.deep(kind) + " Ask " + e(body) + " " + clause + "; ask " + x + " " + k + " -> " + e(t, n, name{k, resumes, yields}) + " })"
	default:
		n.t = "unit"
		again := e(t, n, name{k, once, yields})
		if t == "unit" {
			again = "(let " + x + " = " + again + " in drop " + k + ")"
		} else if yields == t {
			again = "(let " + x + " = " + again + " in resume " + k + " 1)"
		}
		return "(" + m.deep(kind) + " Tick " + e(body) + " " + clause + "; tick " + x + " " + k + " -> " + again + " })"
	}
}

// deep returns the word that begins a handler.
func (m maker) deep(kind int) string {
	if kind == 0 {
		return "shallow"
	}
	return "handle"
}

// text returns a program with up to three definitions.
func (m maker) text(depth int) string {
	var out strings.Builder
	var env []name
	for range m.Intn(4) {
		n := name{text: m.variable(), t: m.goal()}
		body := m.expr(n.t, depth-1, env)
		if m.Intn(3) == 0 {
			body = m.small(n.t, env)
		}
		out.WriteString("def " + n.text + " = " + body + "\n")
		env = append(env, n)
	}
	main := m.expr(m.goal(), depth, env)
	if m.Intn(4) > 0 {
		main = "handle Ask handle Tick " + main + " { return x -> x; tick u k -> resume k 1 } { return x -> x; ask n k -> k n }"
	}
	out.WriteString("main " + main)
	return out.String()
}

// program returns a program.
func (m maker) program(t testing.TB, depth int) api.Program { return parsed(t, m.text(depth)) }

// some returns some of a list, in any order.
func (m maker) some(l [][]int, most int) (out [][]int) {
	for range m.Intn(most + 1) {
		if len(l) > 0 {
			out = append(out, l[m.Intn(len(l))])
		}
	}
	return out
}
