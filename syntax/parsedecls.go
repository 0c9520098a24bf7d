package syntax

import (
	"strings"

	"reprise/api"
	"reprise/lexer"
)

// fullType reads the rule type.
func (p *parser) fullType() api.Type {
	return nested(p, func() api.Type {
		left := p.applied()
		if !p.skip("->") {
			return left
		}
		row := p.row()
		right := p.fullType()
		return api.Type{Kind: api.TFun, L: []api.Type{left, right}, Row: row}
	})
}

// applied reads the rule applied.
func (p *parser) applied() api.Type {
	isName := p.peek().Kind == api.TkUpper
	t := p.single()
	if isName && t.Kind == api.TData {
		t.L = p.singles()
	}
	return t
}

// singles reads the rule single as often as it is there.
func (p *parser) singles() (l []api.Type) {
	for p.isSingle() {
		t := p.single()
		l = append(l, t)
	}
	return l
}

// isSingle reports whether the rule single begins with the next token.
func (p *parser) isSingle() bool {
	t := p.peek()
	return t.Kind == api.TkUpper || t.Kind == api.TkLower || t.S == "("
}

// single reads the rule single.
func (p *parser) single() api.Type {
	switch p.peek().Kind {
	case api.TkUpper:
		return namedType(p.upper())
	case api.TkLower:
		return p.variable(p.lower())
	}
	p.need("(")
	t := p.fullType()
	p.need(")")
	return t
}

// namedType returns the type without arguments that has a name.
func namedType(name string) api.Type {
	if kind, ok := builtInType(name); ok {
		return api.Type{Kind: kind}
	}
	return api.Type{Kind: api.TData, S: name}
}

// variable returns the type that a variable name is.
func (p *parser) variable(name string) api.Type {
	if n, ok := numberBehind("t", name); ok && !p.declared {
		return api.Type{Kind: api.TVar, N: n}
	}
	return api.Type{Kind: api.TParam, S: name}
}

// numberBehind returns the number that follows a letter in a name, and whether the name consists of both.
func numberBehind(letter, name string) (n int, ok bool) {
	digits, ok := strings.CutPrefix(name, letter)
	if !ok {
		return 0, false
	}
	tokens, _, e := lexer.Lex(digits)
	if e != api.OK || len(tokens) != 1 || tokens[0].Kind != api.TkInt {
		return 0, false
	}
	return tokens[0].N, true
}

// row reads the rule row, if it is there.
func (p *parser) row() api.Row {
	r := api.Row{Tail: -1}
	if !p.skip("<") {
		return r
	}
	r.Labels = separated(p, ",", p.label, "|", ">")
	if !p.declared && p.skip("|") {
		r.Tail = p.tail()
	}
	p.need(">")
	return r
}

// tail reads a row variable.
func (p *parser) tail() int {
	n, ok := numberBehind("r", p.peek().S)
	if !ok {
		p.fail()
	}
	p.next++
	return n
}

// label reads the rule label.
func (p *parser) label() api.Label {
	l := api.Label{S: p.upper()}
	if !p.declared && p.skip("@") {
		if p.peek().N == 0 {
			p.fail()
		}
		l.N = p.token(api.TkInt).N
	}
	return l
}

// program reads the rule program.
func (p *parser) program() api.Program {
	p.declared = true
	x := api.Program{}
	for p.skip("data") {
		d := p.data()
		x.Data = append(x.Data, d)
	}
	for p.skip("effect") {
		f := api.Effect{Name: p.upper()}
		f.Ops = inBraces(p, p.op)
		x.Effects = append(x.Effects, f)
	}
	for p.skip("def") {
		d := api.Def{Name: p.lower()}
		p.need("=")
		d.Body = p.expr()
		x.Defs = append(x.Defs, d)
	}
	p.need("main")
	x.Main = p.expr()
	return x
}

// data reads the rule data.
func (p *parser) data() api.Data {
	d := api.Data{Name: p.upper()}
	d.Params = p.lowers()
	d.Cons = inBraces(p, p.cons)
	return d
}

// cons reads the rule cons.
func (p *parser) cons() api.Cons {
	c := api.Cons{Name: p.upper()}
	c.Args = p.singles()
	return c
}

// op reads the rule op.
func (p *parser) op() api.Op {
	o := api.Op{Once: p.skip("once")}
	o.Name = p.lower()
	p.need(":")
	o.Arg = p.applied()
	p.need("->")
	o.Res = p.applied()
	return o
}
