package syntax

import (
	"reprise/api"
	"reprise/lexer"
)

// fullType writes a type where the grammar asks for the rule of a level.
func (p *printer) fullType(t api.Type, asked level) {
	if levelOfType(t) >= asked {
		p.bareType(t)
		return
	}
	p.write("(")
	p.bareType(t)
	p.write(")")
}

// bareType writes a type without parentheses around it.
func (p *printer) bareType(t api.Type) {
	switch t.Kind {
	case api.TVar:
		p.write("t", lexer.Digits(t.N))
	case api.TInt:
		p.write("Int")
	case api.TBool:
		p.write("Bool")
	case api.TUnit:
		p.write("Unit")
	case api.TFun:
		p.function(t)
	default:
		p.write(t.S)
		p.arguments(t.L)
	}
}

// function writes a function type.
func (p *printer) function(t api.Type) {
	p.fullType(t.L[0], appliedLevel)
	p.write(" -> ")
	if len(t.Row.Labels) > 0 || t.Row.Tail != -1 {
		p.row(t.Row)
		p.write(" ")
	}
	p.fullType(t.L[1], functionLevel)
}

// arguments writes types as arguments, each behind a blank.
func (p *printer) arguments(l []api.Type) {
	for _, t := range l {
		p.write(" ")
		p.fullType(t, singleLevel)
	}
}

// row writes a row.
func (p *printer) row(r api.Row) {
	p.write("<")
	list(p, r.Labels, ", ", p.label)
	if r.Tail != -1 {
		if len(r.Labels) > 0 {
			p.write(" ")
		}
		p.write("| r", lexer.Digits(r.Tail))
	}
	p.write(">")
}

// label writes a label.
func (p *printer) label(l api.Label) {
	p.write(l.S)
	if l.N != 0 {
		p.write("@", lexer.Digits(l.N))
	}
}

// program writes a program.
func (p *printer) program(x api.Program) {
	for _, d := range x.Data {
		p.write("data ", d.Name)
		p.spaced(d.Params)
		p.write(" ")
		braces(p, d.Cons, p.cons)
		p.write("\n")
	}
	for _, f := range x.Effects {
		p.write("effect ", f.Name, " ")
		braces(p, f.Ops, p.op)
		p.write("\n")
	}
	for _, d := range x.Defs {
		p.write("def ", d.Name, " = ")
		p.expr(d.Body, exprLevel)
		p.write("\n")
	}
	p.write("main ")
	p.expr(x.Main, exprLevel)
	p.write("\n")
}

// cons writes the declaration of a constructor.
func (p *printer) cons(c api.Cons) {
	p.write(c.Name)
	p.arguments(c.Args)
}

// op writes the declaration of an operation.
func (p *printer) op(o api.Op) {
	if o.Once {
		p.write("once ")
	}
	p.write(o.Name, " : ")
	p.fullType(o.Arg, appliedLevel)
	p.write(" -> ")
	p.fullType(o.Res, appliedLevel)
}
