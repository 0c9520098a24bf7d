package syntax

import (
	"slices"

	"reprise/api"
	"reprise/lexer"
	"reprise/trees"
)

// builtInType returns the kind of a built-in type, and whether a name is that of one.
func builtInType(name string) (kind api.TypeKind, ok bool) {
	switch name {
	case "Int":
		return api.TInt, true
	case "Bool":
		return api.TBool, true
	case "Unit":
		return api.TUnit, true
	}
	return 0, false
}

// typeNode is a type that is looked at, with what its kind uses.
type typeNode struct {
	api.Type
	uses
}

// checkTypeNode returns the first error of a type's node, without its parts.
func checkTypeNode(t api.Type) api.Errno {
	if t.Kind < 0 || int(t.Kind) >= len(typeUses) {
		return api.ErrArg
	}
	n := typeNode{Type: t, uses: typeUses[t.Kind]}
	switch {
	case !n.number.has(n.N):
		return api.ErrArg
	case !n.s.has(n.S):
		return api.ErrName
	case !counts(len(n.L), n.parts, n.moreParts):
		return api.ErrArity
	case n.Kind == api.TFun:
		return checkRow(n.Row)
	case len(n.Row.Labels) > 0 || n.Row.Tail != 0:
		return api.ErrArg
	}
	return api.OK
}

// checkRow returns the first error of the row of a function type.
func checkRow(r api.Row) api.Errno {
	if e := trees.FirstError(slices.All(r.Labels), checkLabel); e != api.OK {
		return e
	}
	if r.Tail < -1 || r.Tail > api.MaxInt {
		return api.ErrArg
	}
	return api.OK
}

// checkLabel returns the first error of a label.
func checkLabel(l api.Label) api.Errno {
	switch {
	case !lexer.IsUpper(l.S):
		return api.ErrName
	case !natural.has(l.N):
		return api.ErrArg
	}
	return api.OK
}

// checkDeclared returns the first error of a type in a declaration.
func checkDeclared(t api.Type) api.Errno {
	if e := CheckType(t); e != api.OK {
		return e
	}
	return trees.FirstError(trees.Nodes(t, trees.TypeParts), checkClosed)
}

// checkClosed returns the error of a type's node that may not stand in a declaration.
func checkClosed(t api.Type) api.Errno {
	scoped := slices.ContainsFunc(t.Row.Labels, func(l api.Label) bool { return l.N != 0 })
	if t.Kind == api.TVar || t.Kind == api.TFun && t.Row.Tail != -1 || scoped {
		return api.ErrArg
	}
	return api.OK
}

// checkData returns the first error of a data type.
func checkData(d api.Data) api.Errno {
	switch {
	case len(d.Params) > api.MaxArgs || len(d.Cons) > api.MaxCases:
		return api.ErrSize
	case !lexer.IsUpper(d.Name):
		return api.ErrName
	}
	if e := checkNames(d.Params, varName); e != api.OK {
		return e
	}
	return trees.FirstError(slices.All(d.Cons), checkCons)
}

// checkCons returns the first error of a constructor.
func checkCons(c api.Cons) api.Errno {
	switch {
	case len(c.Args) > api.MaxArgs:
		return api.ErrSize
	case !lexer.IsUpper(c.Name):
		return api.ErrName
	}
	return trees.FirstError(slices.All(c.Args), checkDeclared)
}

// checkEffect returns the first error of an effect.
func checkEffect(f api.Effect) api.Errno {
	switch {
	case len(f.Ops) > api.MaxCases:
		return api.ErrSize
	case !lexer.IsUpper(f.Name):
		return api.ErrName
	}
	return trees.FirstError(slices.All(f.Ops), checkOp)
}

// checkOp returns the first error of an operation.
func checkOp(o api.Op) api.Errno {
	if !lexer.IsVar(o.Name) {
		return api.ErrName
	}
	if e := checkDeclared(o.Arg); e != api.OK {
		return e
	}
	return checkDeclared(o.Res)
}
