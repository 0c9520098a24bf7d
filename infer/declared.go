package infer

import (
	"reprise/api"
	"reprise/decl"
)

// dataType is a data type whose parameters are general variables, and the arguments of its constructors.
type dataType struct {
	*node
	fields [][]*node
}

// operation is an operation of an effect.
type operation struct {
	effect   string
	arg, res *node
	once     bool
}

// declarations are what a program declares, with types of the graph for what has been asked for.
type declarations struct {
	api.Program
	types      map[int]dataType
	operations map[string]operation
}

// declared returns the declarations of a program that are in order.
func declared(p api.Program) declarations {
	return declarations{Program: p, types: map[int]dataType{}, operations: map[string]operation{}}
}

// constructor returns the data type that has a constructor, and the index of the constructor in it.
func (d declarations) constructor(name string) (dataType, int) {
	i, at, _ := decl.FindCon(d.Program, name)
	return remembered(d.types, i, func() dataType { return typeOf(d.Data[i]) }), at
}

// typeOf returns a data type.
func typeOf(d api.Data) (t dataType) {
	params := map[string]*node{}
	parts := each(d.Params, func(name string) *node {
		params[name] = newVariable()
		params[name].general = true
		return params[name]
	})
	t.node = newNode(shape{kind: api.TData, name: d.Name, parts: parts})
	for _, c := range d.Cons {
		t.fields = append(t.fields, each(c.Args, func(a api.Type) *node { return nodeOf(a, params) }))
	}
	return t
}

// nodeOf returns the node of a declared type.
func nodeOf(t api.Type, params map[string]*node) *node {
	if t.Kind == api.TParam {
		return params[t.S]
	}
	parts := each(t.L, func(part api.Type) *node { return nodeOf(part, params) })
	return newNode(shape{kind: t.Kind, name: t.S, parts: parts, row: closedRow(t.Row.Labels...)})
}

// operation returns an operation.
func (d declarations) operation(name string) operation {
	return remembered(d.operations, name, func() operation {
		effect, at, _ := decl.FindOp(d.Program, name)
		if effect < 0 {
			return operationOfIO(name)
		}
		f := d.Effects[effect]
		o := f.Ops[at]
		return operation{f.Name, nodeOf(o.Arg, nil), nodeOf(o.Res, nil), o.Once}
	})
}

// operationOfIO returns an operation of the effect that every program has.
func operationOfIO(name string) operation {
	integer, unit := leaf(api.TInt), leaf(api.TUnit)
	if name == api.Print {
		return operation{api.IO, integer, unit, true}
	}
	return operation{api.IO, unit, integer, true}
}
