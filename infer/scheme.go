package infer

import "reprise/api"

// generalize returns what a name stands for that is bound in an environment to a type: to the type as the solution makes it, in which those variables are general that are not free in the environment.
func (g *graph) generalize(name string, t *node, e *env) binding {
	g.solve()
	for n := range g.reached(e.types()) {
		if end := n.row.whole().tail; end != nil {
			end.seen = g.round
		}
	}
	made := map[*node]*node{}
	var write func(n *node) *node
	write = func(n *node) *node {
		n = n.root()
		if n.kind == api.TVar {
			n.general = n.seen != g.round
			return n
		}
		return remembered(made, n, func() *node {
			r := n.row.whole()
			if r.tail != nil {
				r.tail.general = r.tail.seen != g.round
			}
			return n.with(each(n.parts, write), r)
		})
	}
	return binding{name: name, of: write(t), generalized: true}
}

// renewing returns a function that puts new variables in the place of general ones, for each the same one in all types that it is given.
func renewing() func(*node) *node {
	types, tails := map[*node]*node{}, map[*tail]*tail{}
	var renew func(n *node) *node
	renew = func(n *node) *node {
		switch {
		case !n.general:
			return n
		case n.kind == api.TVar:
			return remembered(types, n, newVariable)
		}
		return remembered(types, n, func() *node {
			r := n.row
			if r.tail != nil && r.tail.general {
				r.tail = remembered(tails, r.tail, func() *tail { return &tail{} })
			}
			return n.with(each(n.parts, renew), r)
		})
	}
	return renew
}

// remembered returns what a map has for a key, which is made the first time.
func remembered[K comparable, V any](m map[K]V, key K, build func() V) V {
	if built, ok := m[key]; ok {
		return built
	}
	built := build()
	m[key] = built
	return built
}

// each returns what a function returns for each element of a list.
func each[T, U any](l []T, f func(T) U) (out []U) {
	for _, x := range l {
		out = append(out, f(x))
	}
	return out
}
