package syntax

import (
	"strings"

	"reprise/api"
	"reprise/lexer"
)

// printer writes trees that are well formed.
type printer struct {
	strings.Builder
	limit int
	rules map[api.Kind]func(api.Expr)
}

// newPrinter returns a printer that need not write more once its text has more bytes than a limit.
func newPrinter(limit int) *printer {
	p := &printer{limit: limit}
	p.rules = map[api.Kind]func(api.Expr){
		api.Var:    func(e api.Expr) { p.write(e.S) },
		api.Int:    p.number,
		api.Bool:   p.truth,
		api.Unit:   func(api.Expr) { p.write("()") },
		api.Fun:    func(e api.Expr) { p.open(e, "fun", " -> ") },
		api.Let:    func(e api.Expr) { p.open(e, "let", " = ", " in ") },
		api.Rec:    func(e api.Expr) { p.open(e, "rec", " = ", " in ") },
		api.If:     func(e api.Expr) { p.behind(e.L, "if ", " then ", " else ") },
		api.Using:  p.using,
		api.Prim:   p.operation,
		api.App:    p.application,
		api.Do:     func(e api.Expr) { p.call(e.L[0], "do ", e.S) },
		api.At:     func(e api.Expr) { p.call(e.L[0], e.S, ".", e.T) },
		api.Mask:   func(e api.Expr) { p.call(e.L[0], "mask ", e.S) },
		api.Resume: func(e api.Expr) { p.call(e.L[0], "resume ", e.S) },
		api.Drop:   func(e api.Expr) { p.write("drop ", e.S) },
		api.Con:    p.constructor,
		api.Match:  func(e api.Expr) { p.braced(e, "match") },
		api.Handle: p.handler,
		api.Named:  func(e api.Expr) { p.braced(e, "named ", e.Names[0], " ", e.S) },
	}
	return p
}

// write writes pieces of text.
func (p *printer) write(pieces ...string) {
	for _, s := range pieces {
		if p.Len() <= p.limit {
			p.WriteString(s)
		}
	}
}

// expr writes an expression where the grammar asks for the rule of a level.
func (p *printer) expr(e api.Expr, asked level) {
	if levelOf(e) >= asked {
		p.rules[e.Kind](e)
		return
	}
	p.write("(")
	p.rules[e.Kind](e)
	p.write(")")
}

// number writes an Int.
func (p *printer) number(e api.Expr) {
	if e.N < 0 {
		p.write("(", lexer.Digits(e.N), ")")
		return
	}
	p.write(lexer.Digits(e.N))
}

// truth writes a Bool.
func (p *printer) truth(e api.Expr) {
	if e.N == 0 {
		p.write("false")
		return
	}
	p.write("true")
}

// behind writes each of some expressions behind a text.
func (p *printer) behind(l []api.Expr, texts ...string) {
	for i, s := range texts {
		p.write(s)
		p.expr(l[i], exprLevel)
	}
}

// spaced writes names, each behind a blank.
func (p *printer) spaced(names []string) {
	for _, name := range names {
		p.write(" ", name)
	}
}

// open writes a node that begins with a keyword and its names, and then has each part behind a text.
func (p *printer) open(e api.Expr, keyword string, texts ...string) {
	p.write(keyword)
	p.spaced(e.Names)
	p.behind(e.L, texts...)
}

// using writes a Using.
func (p *printer) using(e api.Expr) {
	p.write("using ", e.Names[0], " [", strings.Join(e.Names[1:], ", "), "]")
	p.behind(e.L, " = ", " close ", " in ")
}

// operation writes a Prim.
func (p *printer) operation(e api.Expr) {
	l, _ := operatorLevel(e.S)
	p.expr(e.L[0], operandLevel(l))
	p.write(" ", e.S, " ")
	p.expr(e.L[1], l+1)
}

// application writes an App.
func (p *printer) application(e api.Expr) {
	p.expr(e.L[0], callLevel)
	p.write(" ")
	p.expr(e.L[1], atomLevel)
}

// call writes an atom behind what is written ahead of it.
func (p *printer) call(argument api.Expr, pieces ...string) {
	p.write(pieces...)
	p.write(" ")
	p.expr(argument, atomLevel)
}

// constructor writes a Con.
func (p *printer) constructor(e api.Expr) {
	p.write(e.S)
	if len(e.L) == 0 {
		return
	}
	p.write("[")
	list(p, e.L, ", ", func(part api.Expr) { p.expr(part, exprLevel) })
	p.write("]")
}

// handler writes a Handle.
func (p *printer) handler(e api.Expr) {
	keyword := "handle "
	if e.N == 1 {
		keyword = "shallow "
	}
	p.braced(e, keyword, e.S)
}

// braced writes a node whose part stands between some text and its arms in braces.
func (p *printer) braced(e api.Expr, pieces ...string) {
	p.write(pieces...)
	p.write(" ")
	p.expr(e.L[0], exprLevel)
	p.write(" ")
	braces(p, e.Arms, p.arm)
}

// arm writes an arm of a match, or a clause.
func (p *printer) arm(a api.Arm) {
	p.write(a.Op)
	p.spaced(a.Names)
	p.write(" -> ")
	p.expr(a.Body, exprLevel)
}

// list writes elements with a separator between each and the next one.
func list[T any](p *printer, l []T, separator string, each func(T)) {
	for i, x := range l {
		if i > 0 {
			p.write(separator)
		}
		each(x)
	}
}

// braces writes elements in braces.
func braces[T any](p *printer, l []T, each func(T)) {
	p.write("{ ")
	list(p, l, "; ", each)
	if len(l) > 0 {
		p.write(" ")
	}
	p.write("}")
}
