package syntax

import (
	"slices"

	"reprise/api"
	"reprise/lexer"
)

// nameClass is a class of strings.
type nameClass uint8

// The classes of strings.
const (
	noName    nameClass = iota // the empty string
	varName                    // variable names
	upperName                  // upper-case names
	dataName                   // upper-case names that are no built-in types
	operator                   // the operators
)

// has reports whether a string is of a class.
func (c nameClass) has(s string) bool {
	switch c {
	case varName:
		return lexer.IsVar(s)
	case upperName:
		return lexer.IsUpper(s)
	case dataName:
		_, builtIn := builtInType(s)
		return lexer.IsUpper(s) && !builtIn
	case operator:
		_, ok := operatorLevel(s)
		return ok
	}
	return s == ""
}

// numberClass is a class of integers.
type numberClass uint8

// The classes of integers.
const (
	zero    numberClass = iota
	bit                 // 0 and 1
	natural             // from 0 to MaxInt
	integer             // from -MaxInt to MaxInt
)

// has reports whether an integer is of a class.
func (c numberClass) has(n int) bool {
	switch c {
	case bit:
		return n == 0 || n == 1
	case natural:
		return n >= 0 && n <= api.MaxInt
	case integer:
		return n >= -api.MaxInt && n <= api.MaxInt
	}
	return n == 0
}

// armClass is what arms a node has.
type armClass uint8

// The classes of arms.
const (
	noArms  armClass = iota
	cases            // the arms of a match
	clauses          // the clauses of a handler
)

// returnOp is the Op of a return clause.
const returnOp = "return"

// uses tells which fields a kind of nodes uses: the classes of N, S and T, the least numbers of names and of parts in L, how many more there may be, and the class of its arms.
type uses struct {
	number           numberClass
	s, t             nameClass
	names, moreNames uint8
	parts, moreParts uint8
	arms             armClass
}

// exprUses has the uses of each kind of expressions.
var exprUses = [...]uses{
	api.Var:    {s: varName},
	api.Int:    {number: integer},
	api.Bool:   {number: bit},
	api.Unit:   {},
	api.Fun:    {names: 1, parts: 1},
	api.App:    {parts: 2},
	api.Let:    {names: 1, parts: 2},
	api.Rec:    {names: 2, parts: 2},
	api.If:     {parts: 3},
	api.Prim:   {s: operator, parts: 2},
	api.Con:    {s: upperName, moreParts: api.MaxArgs},
	api.Match:  {parts: 1, arms: cases},
	api.Do:     {s: varName, parts: 1},
	api.At:     {s: varName, t: varName, parts: 1},
	api.Handle: {number: bit, s: upperName, parts: 1, arms: clauses},
	api.Named:  {s: upperName, names: 1, parts: 1, arms: clauses},
	api.Mask:   {s: upperName, parts: 1},
	api.Using:  {names: 1, moreNames: api.MaxDecls, parts: 3},
	api.Resume: {s: varName, parts: 1},
	api.Drop:   {s: varName},
}

// typeUses has the uses of each kind of types.
var typeUses = [...]uses{
	api.TVar:   {number: natural},
	api.TParam: {s: varName},
	api.TInt:   {},
	api.TBool:  {},
	api.TUnit:  {},
	api.TFun:   {parts: 2},
	api.TData:  {s: dataName, moreParts: api.MaxArgs},
}

// counts reports whether a number is at least the first one, with at most so many more.
func counts(n int, least, more uint8) bool {
	return n >= int(least) && n <= int(least)+int(more)
}

// node is an expression that is looked at, with what its kind uses.
type node struct {
	api.Expr
	uses
}

// checkNode returns the first error of a node, without its parts.
func checkNode(e api.Expr) api.Errno {
	if e.Kind < 0 || int(e.Kind) >= len(exprUses) {
		return api.ErrArg
	}
	n := node{Expr: e, uses: exprUses[e.Kind]}
	switch {
	case !n.number.has(n.N):
		return api.ErrArg
	case !n.s.has(n.S) || !n.t.has(n.T):
		return api.ErrName
	case !counts(len(n.Names), n.names, n.moreNames) || !counts(len(n.L), n.parts, n.moreParts) || !n.hasRoom():
		return api.ErrArity
	}
	if e := n.checkNames(); e != api.OK {
		return e
	}
	return n.checkArms()
}

// hasRoom reports whether a node may have as many arms as it has.
func (n node) hasRoom() bool {
	return len(n.Arms) == 0 || n.arms != noArms && len(n.Arms) <= 1+api.MaxCases
}

// checkNames returns the first error of a node's names.
func (n node) checkNames() api.Errno {
	if n.Kind != api.Using {
		return checkNames(n.Names, varName)
	}
	if e := checkNames(n.Names[:1], varName); e != api.OK {
		return e
	}
	return checkNames(n.Names[1:], upperName)
}

// checkNames returns the first error of names that have to be of a class, and distinct.
func checkNames(names []string, class nameClass) api.Errno {
	for i, name := range names {
		if !class.has(name) {
			return api.ErrName
		}
		if slices.Contains(names[:i], name) {
			return api.ErrTwice
		}
	}
	return api.OK
}

// checkArms returns the first error of a node's arms, without their bodies.
func (n node) checkArms() api.Errno {
	for i, a := range n.Arms {
		if e := n.checkArm(a, i == 0); e != api.OK {
			return e
		}
		if e := checkNames(a.Names, varName); e != api.OK {
			return e
		}
		if slices.ContainsFunc(n.Arms[:i], func(b api.Arm) bool { return b.Op == a.Op }) {
			return api.ErrTwice
		}
	}
	if n.arms == clauses && len(n.Arms) == 0 {
		return api.ErrArity
	}
	return api.OK
}

// checkArm returns the first error of an arm's Op and of the number of its names.
func (n node) checkArm(a api.Arm, first bool) api.Errno {
	var arity, named bool
	switch {
	case n.arms == cases:
		arity, named = len(a.Names) <= api.MaxArgs, lexer.IsUpper(a.Op)
	case first:
		arity, named = a.Op == returnOp && len(a.Names) == 1, true
	default:
		arity, named = len(a.Names) == 2, lexer.IsVar(a.Op)
	}
	switch {
	case !arity:
		return api.ErrArity
	case !named:
		return api.ErrName
	}
	return api.OK
}
