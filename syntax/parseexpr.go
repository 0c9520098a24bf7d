package syntax

import "reprise/api"

// expr reads the rule expr.
func (p *parser) expr() api.Expr {
	return nested(p, func() api.Expr {
		switch p.peek().S {
		case "fun":
			return p.open(api.Fun, 1, "->")
		case "let":
			return p.open(api.Let, 1, "=", "in")
		case "rec":
			return p.open(api.Rec, 2, "=", "in")
		case "if":
			return api.Expr{Kind: api.If, L: p.behind("if", "then", "else")}
		case "using":
			return p.using()
		}
		return p.operation(compareLevel)
	})
}

// behind reads an expression behind each of some tokens.
func (p *parser) behind(tokens ...string) (l []api.Expr) {
	for _, s := range tokens {
		p.need(s)
		part := p.expr()
		l = append(l, part)
	}
	return l
}

// open reads a keyword and names, and then an expression behind each of some tokens.
func (p *parser) open(kind api.Kind, names int, tokens ...string) api.Expr {
	e := api.Expr{Kind: kind}
	p.next++
	for range names {
		name := p.lower()
		e.Names = append(e.Names, name)
	}
	e.L = p.behind(tokens...)
	return e
}

// using reads a Using.
func (p *parser) using() api.Expr {
	p.need("using")
	names := []string{p.lower()}
	p.need("[")
	effects := separated(p, ",", p.upper, "]")
	p.need("]")
	names = append(names, effects...)
	return api.Expr{Kind: api.Using, Names: names, L: p.behind("=", "close", "in")}
}

// operation reads the rule of an operator's level.
func (p *parser) operation(l level) api.Expr {
	if l > productLevel {
		return p.call()
	}
	left := p.operation(l + 1)
	for p.isOperator(l) {
		op := p.token(api.TkSymbol).S
		right := p.operation(l + 1)
		left = api.Expr{Kind: api.Prim, S: op, L: []api.Expr{left, right}}
		if operandLevel(l) != l {
			return left
		}
	}
	return left
}

// isOperator reports whether the next token is an operator of a level.
func (p *parser) isOperator(l level) bool {
	found, ok := operatorLevel(p.peek().S)
	return ok && found == l
}

// call reads the rule call.
func (p *parser) call() api.Expr {
	e := p.head()
	for p.isAtom() {
		argument := p.atom()
		e = api.Expr{Kind: api.App, L: []api.Expr{e, argument}}
	}
	return e
}

// head reads the rule head.
func (p *parser) head() api.Expr {
	switch {
	case p.skip("do"):
		op := p.lower()
		return p.onAtom(api.Expr{Kind: api.Do, S: op})
	case p.skip("mask"):
		effect := p.upper()
		return p.onAtom(api.Expr{Kind: api.Mask, S: effect})
	case p.skip("resume"):
		resumption := p.lower()
		return p.onAtom(api.Expr{Kind: api.Resume, S: resumption})
	case p.skip("drop"):
		return api.Expr{Kind: api.Drop, S: p.lower()}
	case p.peek().Kind == api.TkLower && p.tokens[p.next+1].S == ".":
		handler := p.lower()
		p.need(".")
		op := p.lower()
		return p.onAtom(api.Expr{Kind: api.At, S: handler, T: op})
	}
	return p.atom()
}

// onAtom reads an atom as the only part of a node.
func (p *parser) onAtom(e api.Expr) api.Expr {
	part := p.atom()
	e.L = []api.Expr{part}
	return e
}

// isAtom reports whether an atom begins with the next token.
func (p *parser) isAtom() bool {
	t := p.peek()
	switch t.Kind {
	case api.TkLower, api.TkUpper, api.TkInt:
		return true
	}
	switch t.S {
	case "true", "false", "(", "match", "handle", "shallow", "named":
		return true
	}
	return false
}

// atom reads the rule atom.
func (p *parser) atom() api.Expr {
	return nested(p, func() api.Expr {
		switch p.peek().Kind {
		case api.TkLower:
			return api.Expr{Kind: api.Var, S: p.lower()}
		case api.TkInt:
			return api.Expr{Kind: api.Int, N: p.token(api.TkInt).N}
		case api.TkUpper:
			return p.constructor()
		}
		return p.enclosed()
	})
}

// constructor reads a Con.
func (p *parser) constructor() api.Expr {
	e := api.Expr{Kind: api.Con, S: p.upper()}
	if p.skip("[") {
		e.L = separated(p, ",", p.expr)
		p.need("]")
	}
	return e
}

// enclosed reads an atom that is a keyword, or stands between tokens.
func (p *parser) enclosed() api.Expr {
	switch {
	case p.skip("true"):
		return api.Expr{Kind: api.Bool, N: 1}
	case p.skip("false"):
		return api.Expr{Kind: api.Bool}
	case p.skip("match"):
		body := p.expr()
		return api.Expr{Kind: api.Match, L: []api.Expr{body}, Arms: inBraces(p, p.arm)}
	case p.skip("handle"):
		return p.handler(api.Expr{Kind: api.Handle})
	case p.skip("shallow"):
		return p.handler(api.Expr{Kind: api.Handle, N: 1})
	case p.skip("named"):
		name := p.lower()
		return p.handler(api.Expr{Kind: api.Named, Names: []string{name}})
	}
	return p.parenthesized()
}

// parenthesized reads an atom in parentheses.
func (p *parser) parenthesized() api.Expr {
	p.need("(")
	if p.skip(")") {
		return api.Expr{Kind: api.Unit}
	}
	if p.skip("-") {
		n := p.token(api.TkInt).N
		p.need(")")
		return api.Expr{Kind: api.Int, N: -n}
	}
	e := p.expr()
	p.need(")")
	return e
}

// handler reads the effect, the body and the clauses of a handler.
func (p *parser) handler(e api.Expr) api.Expr {
	e.S = p.upper()
	body := p.expr()
	e.L = []api.Expr{body}
	e.Arms = p.clauses()
	return e
}

// clauses reads the clauses of a handler.
func (p *parser) clauses() []api.Arm {
	first := true
	return inBraces(p, func() api.Arm {
		if !first {
			return p.armOf(p.lower())
		}
		first = false
		p.need(returnOp)
		return p.armOf(returnOp)
	})
}

// arm reads an arm of a match.
func (p *parser) arm() api.Arm {
	return p.armOf(p.upper())
}

// armOf reads the names and the body of an arm.
func (p *parser) armOf(op string) api.Arm {
	names := p.lowers()
	p.need("->")
	body := p.expr()
	return api.Arm{Op: op, Names: names, Body: body}
}
