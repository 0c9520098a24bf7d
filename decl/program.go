package decl

import (
	"iter"
	"slices"

	"reprise/api"
	"reprise/syntax"
	"reprise/trees"
)

// ioIndex is the index of the effect that is declared in every program.
const ioIndex = -1

// io returns the effect that is declared in every program.
func io() api.Effect {
	integer, unit := api.Type{Kind: api.TInt}, api.Type{Kind: api.TUnit}
	return api.Effect{Name: api.IO, Ops: []api.Op{
		{Name: api.Print, Arg: integer, Res: unit, Once: true},
		{Name: api.Read, Arg: unit, Res: integer, Once: true},
	}}
}

// spot is where something is declared: the index of its data type or effect, and its own index there.
type spot struct{ of, at int }

// dataNames yields the names of data types, each with its index.
func dataNames(p api.Program) iter.Seq2[int, string] {
	return func(yield func(int, string) bool) {
		for i, d := range p.Data {
			if !yield(i, d.Name) {
				return
			}
		}
	}
}

// constructors yields the names of constructors, each with its place.
func constructors(p api.Program) iter.Seq2[spot, string] {
	return func(yield func(spot, string) bool) {
		for i, d := range p.Data {
			for j, c := range d.Cons {
				if !yield(spot{i, j}, c.Name) {
					return
				}
			}
		}
	}
}

// effects yields the declared effects, each with its index, IO behind those of the program.
func effects(p api.Program) iter.Seq2[int, api.Effect] {
	return func(yield func(int, api.Effect) bool) {
		for i, f := range p.Effects {
			if !yield(i, f) {
				return
			}
		}
		yield(ioIndex, io())
	}
}

// effectNames yields the names of the declared effects, each with its index.
func effectNames(p api.Program) iter.Seq2[int, string] {
	return func(yield func(int, string) bool) {
		for i, f := range effects(p) {
			if !yield(i, f.Name) {
				return
			}
		}
	}
}

// operations yields the names of operations, each with its place.
func operations(p api.Program) iter.Seq2[spot, string] {
	return func(yield func(spot, string) bool) {
		for i, f := range effects(p) {
			for j, o := range f.Ops {
				if !yield(spot{i, j}, o.Name) {
					return
				}
			}
		}
	}
}

// find returns the first place of a name.
func find[K any](l iter.Seq2[K, string], name string) (place K, err api.Errno) {
	for k, s := range l {
		if s == name {
			return k, api.OK
		}
	}
	return place, api.ErrNone
}

// places returns the first place of each name.
func places[K any](l iter.Seq2[K, string]) map[string]K {
	first := map[string]K{}
	for k, s := range l {
		if _, ok := first[s]; !ok {
			first[s] = k
		}
	}
	return first
}

// program is a program that is looked at, with the first place of each name that it declares.
type program struct {
	api.Program
	data, effects map[string]int
	cons, ops     map[string]spot
}

// declared returns a program whose declarations are in order.
func declared(p api.Program) program {
	need(syntax.CheckProgram(api.Program{Data: p.Data, Effects: p.Effects, Main: api.Expr{Kind: api.Unit}}))
	in := program{Program: p, data: places(dataNames(p)), effects: places(effectNames(p)), cons: places(constructors(p)), ops: places(operations(p))}
	for i, d := range p.Data {
		in.needData(i, d)
	}
	for i, f := range p.Effects {
		in.needEffect(i, f)
	}
	return in
}

// needData leaves the call at the first error of a data type.
func (p program) needData(i int, d api.Data) {
	switch d.Name {
	case "Int", "Bool", "Unit":
		panic(api.ErrTwice)
	}
	if p.data[d.Name] != i {
		panic(api.ErrTwice)
	}
	for j, c := range d.Cons {
		if p.cons[c.Name] != (spot{i, j}) {
			panic(api.ErrTwice)
		}
		for _, a := range c.Args {
			p.needType(a, d.Params...)
		}
	}
}

// needEffect leaves the call at the first error of an effect.
func (p program) needEffect(i int, f api.Effect) {
	if f.Name == api.IO || p.effects[f.Name] != i {
		panic(api.ErrTwice)
	}
	for j, o := range f.Ops {
		if o.Name == api.Print || o.Name == api.Read || p.ops[o.Name] != (spot{i, j}) {
			panic(api.ErrTwice)
		}
		p.needType(o.Arg)
		p.needType(o.Res)
	}
}

// opsOf returns the operations of the effect of a name, and whether there is one.
func (p program) opsOf(name string) (ops []api.Op, ok bool) {
	i, ok := p.effects[name]
	switch {
	case !ok:
		return nil, false
	case i == ioIndex:
		return io().Ops, true
	}
	return p.Effects[i].Ops, true
}

// hasEffect reports whether there is an effect of a name.
func (p program) hasEffect(name string) bool {
	_, ok := p.effects[name]
	return ok
}

// needType leaves the call at the first error of a type with some parameters.
func (p program) needType(t api.Type, params ...string) {
	need(trees.FirstError(trees.Nodes(t, trees.TypeParts), func(n api.Type) api.Errno { return p.typeNode(n, params) }))
}

// typeNode returns the error of a type's node with some parameters.
func (p program) typeNode(t api.Type, params []string) api.Errno {
	switch t.Kind {
	case api.TParam:
		if !slices.Contains(params, t.S) {
			return api.ErrNone
		}
	case api.TData:
		i, ok := p.data[t.S]
		if !ok {
			return api.ErrNone
		}
		if len(t.L) != len(p.Data[i].Params) {
			return api.ErrArity
		}
	case api.TFun:
		if slices.ContainsFunc(t.Row.Labels, func(l api.Label) bool { return !p.hasEffect(l.S) }) {
			return api.ErrNone
		}
	}
	return api.OK
}

// withType returns a program whose declarations are in order, and in which a type is closed and in order.
func withType(p api.Program, t api.Type) program {
	in := declared(p)
	need(syntax.CheckType(t))
	need(trees.FirstError(trees.Nodes(t, trees.TypeParts), closedNode))
	in.needType(t)
	return in
}

// closedNode returns the error of a well-formed type's node that may not stand in a closed type.
func closedNode(t api.Type) api.Errno {
	scoped := slices.ContainsFunc(t.Row.Labels, func(l api.Label) bool { return l.N != 0 })
	if t.Kind == api.TVar || t.Kind == api.TFun && t.Row.Tail != -1 || scoped {
		return api.ErrArg
	}
	return api.OK
}
