package scope

import (
	"maps"
	"slices"

	"reprise/api"
	"reprise/syntax"
)

// substitution puts an expression in the place of a variable.
type substitution struct {
	x           name
	v           *node
	size, depth int             // of v
	free        map[name]bool   // the free names of v
	used        map[string]bool // all names of v, and x
	made        int             // how many nodes the result has so far
}

// newSubstitution returns the substitution of an expression for a variable.
func newSubstitution(x string, v *node) *substitution {
	s := &substitution{
		x: name{variables, x}, v: v, size: syntax.Size(v.Expr), depth: syntax.Depth(v.Expr),
		free: setOf(v.free()), used: setOf(v.names()),
	}
	s.used[x] = true
	return s
}

// replaces reports whether a node is a free occurrence of the variable.
func (s *substitution) replaces(n *node) bool {
	x, ok := n.occurrence()
	return ok && n.at == nil && x == s.x
}

// occursIn reports whether the variable occurs, free, within a node.
func (s *substitution) occursIn(n *node) bool {
	for part := range n.all() {
		if s.replaces(part) {
			return true
		}
	}
	return false
}

// needsVar reports whether the variable occurs, free, where only a variable can take its place.
func (s *substitution) needsVar(n *node) bool {
	for part := range n.all() {
		if part.Kind != api.Var && s.replaces(part) {
			return true
		}
	}
	return false
}

// result returns the result of the substitution in an expression. Its limits are kept while it is made: it might be very large.
func (s *substitution) result(root *node) (out api.Expr, err api.Errno) {
	defer func() {
		if stop := recover(); stop != nil {
			err = api.ErrSize
		}
	}()
	return s.in(root, 1), api.OK
}

// grow counts nodes of the result that begin at a level, and leaves the substitution where they are too many or too deep.
func (s *substitution) grow(level, size, depth int) {
	s.made += size
	if s.made > api.MaxSize || level-1+depth > api.MaxDepth {
		panic(api.ErrSize)
	}
}

// in returns the result of the substitution in a node that is at a level of the result.
func (s *substitution) in(n *node, level int) api.Expr {
	replaced := s.replaces(n)
	if replaced && n.Kind == api.Var {
		s.grow(level, s.size, s.depth)
		return s.v.expr()
	}
	s.grow(level, 1, 1)
	s.rename(n)
	out := n.rebuilt(func(part *node) api.Expr { return s.in(part, level+1) })
	if replaced {
		out.S = s.v.S
	}
	return out
}

// rename gives new names to what captures at a node.
func (s *substitution) rename(n *node) {
	l := s.capturing(n)
	if len(l) == 0 {
		return
	}
	m := newNamer(setOf(n.names()))
	maps.Copy(m.used, s.used)
	for _, b := range l {
		b.now = m.fresh(b.text)
	}
}

// capturing returns the binders of a node that capture, in the order in which the node binds them. A node that has both arms and a name of its own is a Named, which binds variables before its handler name.
func (s *substitution) capturing(n *node) (l []*binder) {
arms:
	for i, names := range n.arms {
		for _, b := range names {
			if !s.free[b.name] {
				continue
			}
			if !s.occursIn(n.parts[len(n.L)+i]) {
				continue arms
			}
			l = append(l, b)
		}
	}
	for _, b := range n.own {
		if s.free[b.name] && s.occursWhere(n, b) {
			l = append(l, b)
		}
	}
	return l
}

// occursWhere reports whether the variable occurs, free, in an expression of L where a node binds one of its own names.
func (s *substitution) occursWhere(n *node, b *binder) bool {
	for i, part := range n.parts[:len(n.L)] {
		if slices.Contains(n.boundIn(i), b) && s.occursIn(part) {
			return true
		}
	}
	return false
}
