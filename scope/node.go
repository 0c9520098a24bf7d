package scope

import (
	"iter"

	"reprise/api"
	"reprise/syntax"
)

// space is a namespace.
type space int

// The namespaces.
const (
	variables space = iota
	handlers
)

// name is a name of a namespace.
type name struct {
	space space
	text  string
}

// binder is a name that a node binds, and what it is renamed to.
type binder struct {
	name
	now string
}

// bind returns binders of names that are not renamed yet.
func bind(s space, texts ...string) (l []*binder) {
	for _, text := range texts {
		l = append(l, &binder{name: name{s, text}, now: text})
	}
	return l
}

// scope is a binder, and the scope around it; nil is the one in which nothing is bound.
type scope struct {
	*binder
	outer *scope
}

// extended returns a scope in which more is bound.
func (s *scope) extended(l ...*binder) *scope {
	for _, b := range l {
		s = &scope{binder: b, outer: s}
	}
	return s
}

// find returns the innermost binder of a name, or nil if it is free.
func (s *scope) find(x name) *binder {
	for ; s != nil; s = s.outer {
		if s.name == x {
			return s.binder
		}
	}
	return nil
}

// node is a node of an expression, with what it binds and what the name belongs to that occurs there.
type node struct {
	api.Expr
	own   []*binder   // of its Names
	arms  [][]*binder // of the Names of each arm
	at    *binder     // of the name that occurs there; nil if it is free
	parts []*node
}

// resolved returns the node of an expression that is well formed.
func resolved(e api.Expr) (*node, api.Errno) {
	if err := syntax.Check(e); err != api.OK {
		return nil, err
	}
	var outermost *scope
	return outermost.resolve(e), api.OK
}

// resolve returns the node of an expression within a scope.
func (s *scope) resolve(e api.Expr) *node {
	n := &node{Expr: e, own: ownBinders(e)}
	for _, a := range e.Arms {
		n.arms = append(n.arms, bind(variables, a.Names...))
	}
	if x, ok := n.occurrence(); ok {
		n.at = s.find(x)
	}
	for part, bound := range n.boundParts() {
		n.parts = append(n.parts, s.extended(bound...).resolve(part))
	}
	return n
}

// ownBinders returns the binders of a node's Names. All names of a Using but the first one are effects.
func ownBinders(e api.Expr) []*binder {
	switch e.Kind {
	case api.Using:
		return bind(variables, e.Names[0])
	case api.Named:
		return bind(handlers, e.Names...)
	}
	return bind(variables, e.Names...)
}

// boundParts yields the parts of a node, each with the binders of the names that are bound there.
func (n *node) boundParts() iter.Seq2[api.Expr, []*binder] {
	return func(yield func(api.Expr, []*binder) bool) {
		for i, part := range n.L {
			if !yield(part, n.boundIn(i)) {
				return
			}
		}
		for i, a := range n.Arms {
			if !yield(a.Body, n.arms[i]) {
				return
			}
		}
	}
}

// boundIn returns the binders of a node's own names that are bound in an expression of L.
func (n *node) boundIn(i int) []*binder {
	switch {
	case n.Kind == api.Let && i != 1, n.Kind == api.Using && i != 2:
		return nil
	case n.Kind == api.Rec && i != 0:
		return n.own[:1]
	}
	return n.own
}

// occurrence returns the name that occurs at a node, renamed as what it belongs to, and whether there is one.
func (n *node) occurrence() (x name, ok bool) {
	switch n.Kind {
	case api.Var, api.Resume, api.Drop:
		x = name{variables, n.S}
	case api.At:
		x = name{handlers, n.S}
	default:
		return name{}, false
	}
	if n.at != nil {
		x.text = n.at.now
	}
	return x, true
}

// all yields a node and the nodes within it, a node before its parts.
func (n *node) all() iter.Seq[*node] {
	return func(yield func(*node) bool) { n.eachNode(yield) }
}

// eachNode yields nodes, and reports whether more of them are asked for.
func (n *node) eachNode(yield func(*node) bool) bool {
	if !yield(n) {
		return false
	}
	for _, part := range n.parts {
		if !part.eachNode(yield) {
			return false
		}
	}
	return true
}

// binders yields what a node and the nodes within it bind, in the order of canonical names.
func (n *node) binders() iter.Seq[*binder] {
	return func(yield func(*binder) bool) { n.eachBinder(yield) }
}

// eachBinder yields binders, and reports whether more of them are asked for.
func (n *node) eachBinder(yield func(*binder) bool) bool {
	if !yieldAll(yield, n.own...) {
		return false
	}
	for i, part := range n.parts {
		if arm := i - len(n.L); arm >= 0 && !yieldAll(yield, n.arms[arm]...) {
			return false
		}
		if !part.eachBinder(yield) {
			return false
		}
	}
	return true
}

// yieldAll yields all of a list, and reports whether more is asked for.
func yieldAll[T any](yield func(T) bool, l ...T) bool {
	for _, x := range l {
		if !yield(x) {
			return false
		}
	}
	return true
}

// free yields the free occurrences of names within a node.
func (n *node) free() iter.Seq[name] {
	return func(yield func(name) bool) {
		for part := range n.all() {
			if x, ok := part.occurrence(); ok && part.at == nil && !yield(x) {
				return
			}
		}
	}
}

// names yields all names that occur within a node or are bound there, as they are renamed.
func (n *node) names() iter.Seq[string] {
	return func(yield func(string) bool) {
		for b := range n.binders() {
			if !yield(b.now) {
				return
			}
		}
		for part := range n.all() {
			if x, ok := part.occurrence(); ok && !yield(x.text) {
				return
			}
		}
	}
}

// expr returns the expression of a node, with the names that it has been given, as new memory.
func (n *node) expr() api.Expr { return n.rebuilt((*node).expr) }

// rebuilt returns the expression of a node, with the names that it has been given and the parts that a function makes.
func (n *node) rebuilt(build func(part *node) api.Expr) api.Expr {
	out := n.Expr
	if x, ok := n.occurrence(); ok {
		out.S = x.text
	}
	out.Names = renamedList(n.Names, n.own...)
	out.L = nil
	out.Arms = copied(n.Arms)
	for i, part := range n.parts {
		built := build(part)
		if i < len(n.L) {
			out.L = append(out.L, built)
			continue
		}
		arm := &out.Arms[i-len(n.L)]
		arm.Names = renamedList(arm.Names, n.arms[i-len(n.L)]...)
		arm.Body = built
	}
	return out
}

// renamedList returns a copy of a list of names, of which the first ones are what the binders are renamed to.
func renamedList(texts []string, l ...*binder) []string {
	out := copied(texts)
	for i, b := range l {
		out[i] = b.now
	}
	return out
}

// copied returns a copy of a list, nil if the list is empty.
func copied[T any](l []T) []T {
	if len(l) == 0 {
		return nil
	}
	out := make([]T, len(l))
	copy(out, l)
	return out
}
