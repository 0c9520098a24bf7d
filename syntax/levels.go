package syntax

import "reprise/api"

// level is a rule of the grammar for expressions, or for types. Each rule begins with the next one.
type level int

// The levels of expressions.
const (
	exprLevel    level = iota // Fun, Let, Rec, If, Using
	compareLevel              // < and ==
	sumLevel                  // + and -
	productLevel              // *
	callLevel                 // App, Do, At, Mask, Resume, Drop
	atomLevel                 // all others
)

// The levels of types.
const (
	functionLevel level = iota // a function type
	appliedLevel               // a data type with arguments
	singleLevel                // all others
)

// levelOf returns the level of a well-formed node.
func levelOf(e api.Expr) level {
	switch e.Kind {
	case api.Fun, api.Let, api.Rec, api.If, api.Using:
		return exprLevel
	case api.Prim:
		l, _ := operatorLevel(e.S)
		return l
	case api.App, api.Do, api.At, api.Mask, api.Resume, api.Drop:
		return callLevel
	}
	return atomLevel
}

// operatorLevel returns the level of an operator, and whether a string is one.
func operatorLevel(s string) (l level, ok bool) {
	l = compareLevel
	switch s {
	case "*":
		l++
		fallthrough
	case "+", "-":
		l++
		fallthrough
	case "<", "==":
		return l, true
	}
	return 0, false
}

// operandLevel returns the level of the left operand at an operator's level; that of the right one is the next one. Comparisons do not associate.
func operandLevel(l level) level {
	if l == compareLevel {
		return sumLevel
	}
	return l
}

// levelOfType returns the level of a well-formed type.
func levelOfType(t api.Type) level {
	switch {
	case t.Kind == api.TFun:
		return functionLevel
	case t.Kind == api.TData && len(t.L) > 0:
		return appliedLevel
	}
	return singleLevel
}
