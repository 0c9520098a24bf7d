package decl_test

import (
	"slices"
	"strconv"

	"reprise/api"
	"reprise/syntax"
)

// The models of this file follow the chapter word by word, without any care for time.

// modelEffects returns the declared effects.
func modelEffects(p api.Program) []api.Effect {
	io := api.Effect{Name: "IO", Ops: []api.Op{{Name: "print", Arg: tint, Res: tunit, Once: true}, {Name: "read", Arg: tunit, Res: tint, Once: true}}}
	return append(slices.Clone(p.Effects), io)
}

// modelOps returns the operations of an effect, if there is one.
func modelOps(p api.Program, name string) []api.Op {
	for _, f := range modelEffects(p) {
		if f.Name == name {
			return f.Ops
		}
	}
	return nil
}

// modelHasEffect and modelHasOp report whether an effect, and an operation, is declared.
func modelHasEffect(p api.Program, name string) bool {
	return slices.ContainsFunc(modelEffects(p), func(f api.Effect) bool { return f.Name == name })
}

func modelHasOp(p api.Program, name string) bool {
	return slices.ContainsFunc(modelEffects(p), func(f api.Effect) bool {
		return slices.ContainsFunc(f.Ops, func(o api.Op) bool { return o.Name == name })
	})
}

// modelData returns the data type of a name, and modelCon the constructor of a name with its data type.
func modelData(p api.Program, name string) (api.Data, bool) {
	for _, d := range p.Data {
		if d.Name == name {
			return d, true
		}
	}
	return api.Data{}, false
}

func modelCon(p api.Program, name string) (api.Data, api.Cons, bool) {
	for _, d := range p.Data {
		for _, c := range d.Cons {
			if c.Name == name {
				return d, c, true
			}
		}
	}
	return api.Data{}, api.Cons{}, false
}

// modelDecls returns the first error of declarations.
func modelDecls(p api.Program) api.Errno {
	if e := syntax.CheckProgram(api.Program{Data: p.Data, Effects: p.Effects, Main: api.Expr{Kind: api.Unit}}); e != api.OK {
		return e
	}
	names, cons := []string{"Int", "Bool", "Unit"}, []string{}
	for _, d := range p.Data {
		if slices.Contains(names, d.Name) {
			return api.ErrTwice
		}
		names = append(names, d.Name)
		for _, c := range d.Cons {
			if slices.Contains(cons, c.Name) {
				return api.ErrTwice
			}
			cons = append(cons, c.Name)
			for _, a := range c.Args {
				if e := modelType(p, a, d.Params); e != api.OK {
					return e
				}
			}
		}
	}
	effects, ops := []string{"IO"}, []string{"print", "read"}
	for _, f := range p.Effects {
		if slices.Contains(effects, f.Name) {
			return api.ErrTwice
		}
		effects = append(effects, f.Name)
		for _, o := range f.Ops {
			if slices.Contains(ops, o.Name) {
				return api.ErrTwice
			}
			ops = append(ops, o.Name)
			if e := modelType(p, o.Arg, nil); e != api.OK {
				return e
			}
			if e := modelType(p, o.Res, nil); e != api.OK {
				return e
			}
		}
	}
	return api.OK
}

// modelType returns the error of a type that is not in order with some parameters.
func modelType(p api.Program, t api.Type, params []string) api.Errno {
	if t.Kind == api.TParam && !slices.Contains(params, t.S) {
		return api.ErrNone
	}
	if t.Kind == api.TData {
		d, ok := modelData(p, t.S)
		if !ok {
			return api.ErrNone
		}
		if len(d.Params) != len(t.L) {
			return api.ErrArity
		}
	}
	for _, l := range t.Row.Labels {
		if !modelHasEffect(p, l.S) {
			return api.ErrNone
		}
	}
	for _, part := range t.L {
		if e := modelType(p, part, params); e != api.OK {
			return e
		}
	}
	return api.OK
}

// modelClosed reports whether a well-formed type is closed.
func modelClosed(t api.Type) bool {
	if t.Kind == api.TVar || t.Kind == api.TFun && t.Row.Tail != -1 {
		return false
	}
	for _, l := range t.Row.Labels {
		if l.N != 0 {
			return false
		}
	}
	return !slices.ContainsFunc(t.L, func(part api.Type) bool { return !modelClosed(part) })
}

// modelCheckType returns the first error of a closed type.
func modelCheckType(p api.Program, t api.Type) api.Errno {
	if e := modelDecls(p); e != api.OK {
		return e
	}
	if e := syntax.CheckType(t); e != api.OK {
		return e
	}
	if !modelClosed(t) {
		return api.ErrArg
	}
	return modelType(p, t, nil)
}

// partsOf returns the parts of a node.
func partsOf(e api.Expr) []api.Expr {
	l := slices.Clone(e.L)
	for _, a := range e.Arms {
		l = append(l, a.Body)
	}
	return l
}

// modelNodes returns the first error of the nodes of a well-formed expression.
func modelNodes(p api.Program, e api.Expr) api.Errno {
	if err := modelNode(p, e); err != api.OK {
		return err
	}
	for _, part := range partsOf(e) {
		if err := modelNodes(p, part); err != api.OK {
			return err
		}
	}
	return api.OK
}

// modelNode returns the error of a node.
func modelNode(p api.Program, e api.Expr) api.Errno {
	switch e.Kind {
	case api.Con:
		_, c, ok := modelCon(p, e.S)
		if !ok {
			return api.ErrNone
		}
		if len(c.Args) != len(e.L) {
			return api.ErrArity
		}
	case api.Match:
		return modelMatch(p, e.Arms)
	case api.Do, api.At:
		if name := map[api.Kind]string{api.Do: e.S, api.At: e.T}[e.Kind]; !modelHasOp(p, name) {
			return api.ErrNone
		}
	case api.Handle, api.Named, api.Mask:
		if !modelHasEffect(p, e.S) {
			return api.ErrNone
		}
		if e.Kind == api.Mask {
			return api.OK
		}
		ops := modelOps(p, e.S)
		if len(e.Arms) != 1+len(ops) {
			return api.ErrCases
		}
		for i, o := range ops {
			if e.Arms[i+1].Op != o.Name {
				return api.ErrCases
			}
		}
	case api.Using:
		for _, name := range e.Names[1:] {
			if name == "IO" {
				return api.ErrTwice
			}
			if !modelHasEffect(p, name) {
				return api.ErrNone
			}
		}
	}
	return api.OK
}

// modelMatch returns the error of the arms of a match.
func modelMatch(p api.Program, arms []api.Arm) api.Errno {
	if len(arms) == 0 {
		return api.ErrCases
	}
	d, _, ok := modelCon(p, arms[0].Op)
	if !ok {
		return api.ErrNone
	}
	if len(arms) != len(d.Cons) {
		return api.ErrCases
	}
	for i, c := range d.Cons {
		if arms[i].Op != c.Name {
			return api.ErrCases
		}
	}
	for i, c := range d.Cons {
		if len(arms[i].Names) != len(c.Args) {
			return api.ErrArity
		}
	}
	return api.OK
}

// modelReplace returns a type in which arguments stand for the parameters.
func modelReplace(t api.Type, params []string, args []api.Type) api.Type {
	if t.Kind == api.TParam {
		return copied(args[slices.Index(params, t.S)], false)
	}
	t = copied(t, false)
	for i, part := range t.L {
		t.L[i] = modelReplace(part, params, args)
	}
	return t
}

// modelFits reports whether an expression is a value without functions of a type.
func modelFits(p api.Program, t api.Type, e api.Expr) bool {
	switch e.Kind {
	case api.Int:
		return t.Kind == api.TInt
	case api.Bool:
		return t.Kind == api.TBool
	case api.Unit:
		return t.Kind == api.TUnit
	case api.Con:
		d, c, ok := modelCon(p, e.S)
		if !ok || t.Kind != api.TData || t.S != d.Name || len(c.Args) != len(e.L) {
			return false
		}
		for i, part := range e.L {
			if !modelFits(p, modelReplace(c.Args[i], d.Params, t.L), part) {
				return false
			}
		}
		return true
	}
	return false
}

// namesIn adds the data types that occur in a type, and reports whether a function type does.
func namesIn(t api.Type, names map[string]bool) (function bool) {
	if t.Kind == api.TData {
		names[t.S] = true
	}
	function = t.Kind == api.TFun
	for _, part := range t.L {
		if namesIn(part, names) {
			function = true
		}
	}
	return function
}

// modelHasFunctions reports whether a type has functions.
func modelHasFunctions(p api.Program, t api.Type) bool {
	names := map[string]bool{}
	has := namesIn(t, names)
	for range p.Data {
		for _, d := range p.Data {
			for _, c := range d.Cons {
				for _, a := range c.Args {
					if names[d.Name] && namesIn(a, names) {
						has = true
					}
				}
			}
		}
	}
	return has
}

// modelInhabited reports whether a type has a value with at most so many constructors within each other; seen has what was found before.
func modelInhabited(p api.Program, t api.Type, high int, seen map[string]bool) bool {
	if t.Kind != api.TData {
		return true
	}
	if high == 0 {
		return false
	}
	key := strconv.Itoa(high) + shownTypes(t)
	if found, ok := seen[key]; ok {
		return found
	}
	d, _ := modelData(p, t.S)
	seen[key] = slices.ContainsFunc(d.Cons, func(c api.Cons) bool {
		return !slices.ContainsFunc(c.Args, func(a api.Type) bool {
			return !modelInhabited(p, modelReplace(a, d.Params, t.L), high-1, seen)
		})
	})
	return seen[key]
}

// modelCompare compares values without functions of one type.
func modelCompare(p api.Program, a, b api.Expr) int {
	if d := modelSize(a) - modelSize(b); d != 0 {
		return d
	}
	if a.Kind != api.Con {
		return a.N - b.N
	}
	if a.S != b.S {
		d, _, _ := modelCon(p, a.S)
		index := func(s string) int {
			return slices.IndexFunc(d.Cons, func(c api.Cons) bool { return c.Name == s })
		}
		return index(a.S) - index(b.S)
	}
	for i := range a.L {
		if d := modelCompare(p, a.L[i], b.L[i]); d != 0 {
			return d
		}
	}
	return 0
}

func modelSize(e api.Expr) int {
	n := 1
	for _, part := range e.L {
		n += modelSize(part)
	}
	return n
}

// modelCandidates returns all expressions with so many nodes that are built of constructors of a program, with any arguments, and of 0, 1, false, true and the unit value.
func modelCandidates(p api.Program, size int) (l []api.Expr) {
	if size == 1 {
		l = []api.Expr{{Kind: api.Int}, {Kind: api.Int, N: 1}, {Kind: api.Bool}, {Kind: api.Bool, N: 1}, {Kind: api.Unit}}
	}
	for _, d := range p.Data {
		for _, c := range d.Cons {
			for _, args := range modelLists(p, len(c.Args), size-1) {
				l = append(l, api.Expr{Kind: api.Con, S: c.Name, L: args})
			}
		}
	}
	return l
}

func modelLists(p api.Program, n, size int) (l [][]api.Expr) {
	if n == 0 && size == 0 {
		return [][]api.Expr{nil}
	}
	if n == 0 || size < n {
		return nil
	}
	for first := 1; first < size-n+2; first++ {
		for _, rest := range modelLists(p, n-1, size-first) {
			for _, x := range modelCandidates(p, first) {
				l = append(l, append([]api.Expr{x}, rest...))
			}
		}
	}
	return l
}

// modelValues returns all values of a type with at most so many nodes, in order.
func modelValues(p api.Program, t api.Type, most int) (l []api.Expr) {
	for size := 1; size <= most; size++ {
		for _, e := range modelCandidates(p, size) {
			if modelFits(p, t, e) {
				l = append(l, e)
			}
		}
	}
	slices.SortFunc(l, func(a, b api.Expr) int { return modelCompare(p, a, b) })
	return l
}
