package infer_test

import (
	"slices"

	"reprise/api"
	"reprise/lexer"
	"reprise/syntax"
)

// runner runs expressions by the rules of chapter 8, as far as the tests of soundness need them: values, events and ends.
type runner struct {
	input  []int
	events int
	scopes int
}

// request is an operation that is performed: where, with what around it so far, and the finalizers of the resources that are open there.
type request struct {
	do     api.Expr
	effect string
	skip   int
	around func(api.Expr) api.Expr
	close  []api.Expr
}

// run runs an expression for so many steps, and returns how it ends, with what, and how many events there were.
func run(p api.Program, x api.Expr, input []int, steps int) (api.End, api.Expr, int) {
	r := &runner{input: input}
	for range steps {
		if isRunValue(x) {
			return api.Done, x, r.events
		}
		next, end := r.top(p, x)
		if end != api.Done {
			return end, x, r.events
		}
		x = next
		if nodes(x) > 2000 {
			break
		}
	}
	return api.OutOfFuel, x, r.events
}

// stuck is what a step panics with if no rule applies.
type stuck struct{}

// top takes a step of a whole expression.
func (r *runner) top(p api.Program, x api.Expr) (out api.Expr, end api.End) {
	defer func() {
		if stop := recover(); stop != nil {
			_ = stop.(stuck)
			end = api.Stuck
		}
	}()
	m := model{p: p}
	out, q := r.step(&m, x)
	switch {
	case q == nil:
		return out, api.Done
	case q.do.Kind == api.Do && q.do.S == api.Print:
		if q.do.L[0].Kind != api.Int {
			panic(stuck{})
		}
		r.events++
		return q.around(api.Expr{Kind: api.Unit}), api.Done
	case q.do.Kind == api.Do && q.do.S == api.Read:
		if q.do.L[0].Kind != api.Unit {
			panic(stuck{})
		}
		if len(r.input) == 0 {
			return x, api.NoInput
		}
		n := r.input[0]
		r.input = r.input[1:]
		r.events++
		return q.around(num(n)), api.Done
	}
	return x, api.Unhandled
}

func nodes(x api.Expr) int {
	n := 1
	for _, part := range x.L {
		n += nodes(part)
	}
	for _, a := range x.Arms {
		n += nodes(a.Body)
	}
	return n
}

func isRunValue(x api.Expr) bool {
	switch x.Kind {
	case api.Int, api.Bool, api.Unit, api.Fun:
		return true
	case api.Con:
		return !slices.ContainsFunc(x.L, func(part api.Expr) bool { return !isRunValue(part) })
	}
	return false
}

// evaluated returns the indices of the parts that are evaluated before a node.
func evaluated(x api.Expr) (l []int) {
	switch x.Kind {
	case api.App, api.Prim:
		return []int{0, 1}
	case api.Let, api.If, api.Match, api.Do, api.At, api.Handle, api.Mask:
		return []int{0}
	case api.Named:
		if x.N > 0 {
			return []int{0}
		}
	case api.Using:
		if len(x.Names) == 0 {
			return []int{2}
		}
		return []int{0, 1}
	case api.Con:
		for i := range x.L {
			l = append(l, i)
		}
	}
	return l
}

// step takes a step, or returns an operation that no handler within the expression handles.
func (r *runner) step(m *model, x api.Expr) (api.Expr, *request) {
	for _, i := range evaluated(x) {
		if isRunValue(x.L[i]) {
			continue
		}
		plug := func(part api.Expr) api.Expr {
			out := x
			out.L = slices.Clone(x.L)
			out.L[i] = part
			return out
		}
		part, q := r.step(m, x.L[i])
		if q == nil {
			return plug(part), nil
		}
		return r.passed(m, x, plug, q)
	}
	return r.rule(m, x)
}

// passed lets an operation pass a node, which handles it or is put around what is around it.
func (r *runner) passed(m *model, x api.Expr, plug func(api.Expr) api.Expr, q *request) (api.Expr, *request) {
	inner := q.around
	handles := x.Kind == api.Named && q.do.Kind == api.At && x.N == q.do.N
	if q.do.Kind == api.Do && x.S == q.effect {
		switch {
		case x.Kind == api.Mask:
			q.skip++
		case x.Kind == api.Handle && q.skip == 0:
			handles = true
		case x.Kind == api.Handle:
			q.skip--
		}
	}
	if handles {
		resumed := func(part api.Expr) api.Expr { return plug(inner(part)) }
		if x.Kind == api.Handle && x.N == 1 {
			resumed = inner
		}
		return r.clause(m, x, q, lam("_y", resumed(v("_y")))), nil
	}
	if x.Kind == api.Using && len(x.Names) == 0 {
		q.close = append(q.close, app(x.L[1], x.L[0]))
	}
	q.around = func(part api.Expr) api.Expr { return plug(inner(part)) }
	return api.Expr{}, q
}

// clause returns the clause of an operation with its argument and its resumption.
func (r *runner) clause(m *model, x api.Expr, q *request, k api.Expr) api.Expr {
	name := q.do.S
	if q.do.Kind == api.At {
		name = q.do.T
	}
	for _, a := range x.Arms[1:] {
		if a.Op != name {
			continue
		}
		body := put(a.Body, a.Names[0], func(x api.Expr) api.Expr { return asVar(x, q.do.L[0]) })
		if _, o := m.operation(name); !o.Once {
			return put(body, a.Names[1], func(x api.Expr) api.Expr { return asVar(x, k) })
		}
		return put(body, a.Names[1], func(x api.Expr) api.Expr {
			switch x.Kind {
			case api.Resume:
				return app(k, x.L[0])
			case api.Drop:
				return api.Expr{Kind: api.Drop, L: q.close}
			}
			return x
		})
	}
	panic(stuck{})
}

// asVar returns a value in place of a Var, and other occurrences as they are.
func asVar(x, value api.Expr) api.Expr {
	if x.Kind == api.Var {
		return value
	}
	return x
}

// put returns an expression in which a function replaces the free occurrences of a variable.
func put(x api.Expr, name string, by func(api.Expr) api.Expr) api.Expr {
	occurs := (x.Kind == api.Var || x.Kind == api.Resume || x.Kind == api.Drop) && x.S == name
	l := slices.Clone(x.L)
	for i, part := range x.L {
		if !binds(x, i, name) {
			l[i] = put(part, name, by)
		}
	}
	x.L = l
	x.Arms = slices.Clone(x.Arms)
	for i, a := range x.Arms {
		if !slices.Contains(a.Names, name) {
			x.Arms[i].Body = put(a.Body, name, by)
		}
	}
	if occurs {
		return by(x)
	}
	return x
}

// binds reports whether a node binds a variable in a part.
func binds(x api.Expr, i int, name string) bool {
	switch {
	case len(x.Names) == 0 || x.Kind == api.Named:
		return false
	case x.Kind == api.Let:
		return i == 1 && x.Names[0] == name
	case x.Kind == api.Using:
		return i == 2 && x.Names[0] == name
	case x.Kind == api.Rec:
		return x.Names[0] == name || i == 0 && x.Names[1] == name
	}
	return x.Names[0] == name
}

// numbered returns an expression in which the free occurrences of a handler name have a number.
func numbered(x api.Expr, h string, n int) api.Expr {
	if x.Kind == api.At && x.S == h && x.N == 0 {
		x.N = n
	}
	x.L = slices.Clone(x.L)
	for i, part := range x.L {
		if x.Kind != api.Named || x.Names[0] != h {
			x.L[i] = numbered(part, h, n)
		}
	}
	x.Arms = slices.Clone(x.Arms)
	for i, a := range x.Arms {
		x.Arms[i].Body = numbered(a.Body, h, n)
	}
	return x
}

// substituted returns an expression with a value in place of a variable.
func substituted(x api.Expr, name string, value api.Expr) api.Expr {
	return put(x, name, func(x api.Expr) api.Expr { return asVar(x, value) })
}

// rule applies the rule of a node whose parts are values.
func (r *runner) rule(m *model, x api.Expr) (api.Expr, *request) {
	switch x.Kind {
	case api.App:
		if x.L[0].Kind == api.Fun {
			return substituted(x.L[0].L[0], x.L[0].Names[0], x.L[1]), nil
		}
	case api.Let:
		return substituted(x.L[1], x.Names[0], x.L[0]), nil
	case api.Rec:
		again := x
		again.L = []api.Expr{x.L[0], x.L[0]}
		return substituted(x.L[1], x.Names[0], lam(x.Names[1], again)), nil
	case api.If:
		if x.L[0].Kind == api.Bool {
			return x.L[2-x.L[0].N], nil
		}
	case api.Prim:
		if x.L[0].Kind == api.Int && x.L[1].Kind == api.Int {
			return calculated(x.S, x.L[0].N, x.L[1].N), nil
		}
	case api.Match:
		for _, a := range x.Arms {
			if x.L[0].Kind == api.Con && a.Op == x.L[0].S {
				body := a.Body
				for i, name := range a.Names {
					body = substituted(body, name, x.L[0].L[i])
				}
				return body, nil
			}
		}
	case api.Handle, api.Named, api.Mask, api.Using, api.Drop:
		return r.handlerRule(x), nil
	case api.Do, api.At:
		if x.Kind == api.At && x.N == 0 {
			break
		}
		name := x.S
		if x.Kind == api.At {
			name = x.T
		}
		f, _ := m.operation(name)
		return api.Expr{}, &request{do: x, effect: f.Name, around: func(x api.Expr) api.Expr { return x }}
	}
	panic(stuck{})
}

// handlerRule applies the rule of a handler, a mask or a resource.
func (r *runner) handlerRule(x api.Expr) api.Expr {
	switch {
	case x.Kind == api.Mask:
		return x.L[0]
	case x.Kind == api.Named && x.N == 0:
		r.scopes++
		x.N = r.scopes
		x.L = []api.Expr{numbered(x.L[0], x.Names[0], x.N)}
		return x
	case x.Kind == api.Handle, x.Kind == api.Named:
		return substituted(x.Arms[0].Body, x.Arms[0].Names[0], x.L[0])
	case x.Kind == api.Using && len(x.Names) > 0:
		return api.Expr{Kind: api.Using, L: []api.Expr{x.L[0], x.L[1], substituted(x.L[2], x.Names[0], x.L[0])}}
	case x.Kind == api.Using:
		return let("_", app(x.L[1], x.L[0]), x.L[2])
	case x.S == "":
		out := api.Expr{Kind: api.Unit}
		for _, call := range slices.Backward(x.L) {
			out = let("_", call, out)
		}
		return out
	}
	panic(stuck{})
}

// calculated returns what an operation on integers yields.
func calculated(op string, a, b int) api.Expr {
	truth := map[string]bool{"<": a < b, "==": a == b}
	if is, ok := truth[op]; ok {
		out := api.Expr{Kind: api.Bool}
		if is {
			out.N = 1
		}
		return out
	}
	return num(lexer.Wrap(map[string]int{"+": a + b, "-": a - b, "*": a * b}[op]))
}

// whole returns the nested Let of a program.
func whole(p api.Program) api.Expr {
	x, _ := syntax.Whole(p)
	return x
}
