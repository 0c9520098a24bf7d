package scope_test

import (
	"slices"
	"strconv"
	"strings"

	"reprise/api"
)

// The models of this file follow the chapter word by word, without any care for time: names are renamed one by one, in place.

// partsOf returns the parts of a node.
func partsOf(e *api.Expr) (l []*api.Expr) {
	for i := range e.L {
		l = append(l, &e.L[i])
	}
	for i := range e.Arms {
		l = append(l, &e.Arms[i].Body)
	}
	return l
}

// everyNode returns all nodes, a node before its parts.
func everyNode(e *api.Expr) []*api.Expr {
	l := []*api.Expr{e}
	for _, part := range partsOf(e) {
		l = append(l, everyNode(part)...)
	}
	return l
}

// site is a name that a node binds: where it is written, the parts in which it is bound, and the arm that has it.
type site struct {
	handler bool
	name    *string
	parts   []*api.Expr
	arm     int
}

// ownName stands for the arm of a name that is none of an arm's.
const ownName = -10

// sites returns what a node binds, as the chapter's table lists it.
func sites(e *api.Expr) (l []site) {
	own := func(handler bool, i int, parts ...int) {
		s := site{handler: handler, name: &e.Names[i], arm: ownName}
		for _, p := range parts {
			s.parts = append(s.parts, &e.L[p])
		}
		l = append(l, s)
	}
	switch e.Kind {
	case api.Fun:
		own(false, 0, 0)
	case api.Let:
		own(false, 0, 1)
	case api.Rec:
		own(false, 0, 0, 1)
		own(false, 1, 0)
	case api.Using:
		own(false, 0, 2)
	}
	for i := range e.Arms {
		for j := range e.Arms[i].Names {
			l = append(l, site{false, &e.Arms[i].Names[j], []*api.Expr{&e.Arms[i].Body}, i})
		}
	}
	if e.Kind == api.Named {
		own(true, 0, 0)
	}
	return l
}

// hides reports whether a node binds a name in a part.
func hides(e, part *api.Expr, handler bool, x string) bool {
	return slices.ContainsFunc(sites(e), func(s site) bool {
		return s.handler == handler && *s.name == x && slices.Contains(s.parts, part)
	})
}

// occurs reports whether a name occurs at a node itself.
func occurs(e *api.Expr, handler bool, x string) bool {
	switch e.Kind {
	case api.Var, api.Resume, api.Drop:
		return !handler && e.S == x
	case api.At:
		return handler && e.S == x
	}
	return false
}

// modelUses returns the number of free occurrences of a name.
func modelUses(e *api.Expr, handler bool, x string) (n int) {
	if occurs(e, handler, x) {
		n++
	}
	for _, part := range partsOf(e) {
		if !hides(e, part, handler, x) {
			n += modelUses(part, handler, x)
		}
	}
	return n
}

// modelRename renames the free occurrences of a name.
func modelRename(e *api.Expr, handler bool, from, to string) {
	if occurs(e, handler, from) {
		e.S = to
	}
	for _, part := range partsOf(e) {
		if !hides(e, part, handler, from) {
			modelRename(part, handler, from, to)
		}
	}
}

// modelNames returns all names.
func modelNames(e api.Expr) (l []string) {
	for _, n := range everyNode(&e) {
		for _, s := range sites(n) {
			l = append(l, *s.name)
		}
		switch n.Kind {
		case api.Var, api.Resume, api.Drop, api.At:
			l = append(l, n.S)
		}
	}
	slices.Sort(l)
	return slices.Compact(l)
}

// modelFree returns the free names of a namespace.
func modelFree(e api.Expr, handler bool) (l []string) {
	for _, x := range modelNames(e) {
		if modelUses(&e, handler, x) > 0 {
			l = append(l, x)
		}
	}
	return l
}

// modelFresh goes through the list of names that the chapter describes.
func modelFresh(base string, used []string) string {
	for n := -1; ; n++ {
		x := base
		if n >= 0 {
			digits := strconv.Itoa(n)
			x = strings.TrimRight(base, "0123456789")
			for len(x)+len(digits) > 12 {
				x = x[:len(x)-1]
			}
			x += digits
		}
		if !slices.Contains(used, x) {
			return x
		}
	}
}

// modelSubst substitutes in place.
func modelSubst(e *api.Expr, x string, v api.Expr) {
	if occurs(e, false, x) {
		if e.Kind == api.Var {
			*e = copied(v, false)
			return
		}
		e.S = v.S
	}
	used := append(append(modelNames(*e), modelNames(v)...), x)
	for _, s := range sites(e) {
		captures := modelUses(&v, s.handler, *s.name) > 0 && slices.ContainsFunc(s.parts, func(part *api.Expr) bool {
			return !hides(e, part, false, x) && modelUses(part, false, x) > 0
		})
		if !captures {
			continue
		}
		name := modelFresh(*s.name, used)
		used = append(used, name)
		for _, part := range s.parts {
			modelRename(part, s.handler, *s.name, name)
		}
		*s.name = name
	}
	for _, part := range partsOf(e) {
		if !hides(e, part, false, x) {
			modelSubst(part, x, v)
		}
	}
}

// substituted returns the model's result of a substitution.
func substituted(e api.Expr, x string, v api.Expr) api.Expr {
	e = copied(e, false)
	modelSubst(&e, x, v)
	return e
}

// bound is a name that is bound around a node.
type bound struct {
	handler bool
	name    string
}

// modelAlpha reports whether two expressions are equal up to renaming.
func modelAlpha(a, b api.Expr) bool { return alphaWithin(&a, &b, nil, nil) }

// alphaWithin compares nodes within names that correspond to each other, one by one.
func alphaWithin(a, b *api.Expr, aroundA, aroundB []bound) bool {
	if a.Kind != b.Kind || a.N != b.N || a.T != b.T || len(a.Names) != len(b.Names) || len(a.L) != len(b.L) || len(a.Arms) != len(b.Arms) {
		return false
	}
	if !sameOccurrence(a, b, aroundA, aroundB) || a.Kind == api.Using && !slices.Equal(a.Names[1:], b.Names[1:]) {
		return false
	}
	for i := range a.Arms {
		if a.Arms[i].Op != b.Arms[i].Op || len(a.Arms[i].Names) != len(b.Arms[i].Names) {
			return false
		}
	}
	partsB := partsOf(b)
	for i, part := range partsOf(a) {
		insideA, insideB := slices.Clone(aroundA), slices.Clone(aroundB)
		sitesB := sites(b)
		for j, s := range sites(a) {
			if slices.Contains(s.parts, part) {
				insideA = append(insideA, bound{s.handler, *s.name})
				insideB = append(insideB, bound{s.handler, *sitesB[j].name})
			}
		}
		if !alphaWithin(part, partsB[i], insideA, insideB) {
			return false
		}
	}
	return true
}

// sameOccurrence compares the S of two nodes of the same kind.
func sameOccurrence(a, b *api.Expr, aroundA, aroundB []bound) bool {
	switch a.Kind {
	case api.Var, api.Resume, api.Drop, api.At:
		i, j := innermost(aroundA, bound{a.Kind == api.At, a.S}), innermost(aroundB, bound{a.Kind == api.At, b.S})
		return i == j && (i >= 0 || a.S == b.S)
	}
	return a.S == b.S
}

// innermost returns the index of the last one of the same names, or -1.
func innermost(l []bound, x bound) int {
	for i := len(l) - 1; i >= 0; i-- {
		if l[i] == x {
			return i
		}
	}
	return -1
}

// placed is a name that is bound, in the order of canonical names.
type placed struct {
	bound
	mark string
}

// marked puts a mark of its own in the place of each name that is bound.
func marked(e *api.Expr, l *[]placed) {
	all := sites(e)
	mark := func(arm int) {
		for _, s := range all {
			if s.arm != arm {
				continue
			}
			x := placed{bound{s.handler, *s.name}, "!" + strconv.Itoa(len(*l))}
			*l = append(*l, x)
			for _, part := range s.parts {
				modelRename(part, s.handler, *s.name, x.mark)
			}
			*s.name = x.mark
		}
	}
	mark(ownName)
	for i, part := range partsOf(e) {
		mark(i - len(e.L))
		marked(part, l)
	}
}

// unmarked puts names in the place of marks.
func unmarked(e *api.Expr, names map[string]string) {
	put := func(s *string) {
		if name, ok := names[*s]; ok {
			*s = name
		}
	}
	for _, n := range everyNode(e) {
		put(&n.S)
		for _, s := range sites(n) {
			put(s.name)
		}
	}
}

// modelCanon returns an expression with canonical names.
func modelCanon(e api.Expr) api.Expr {
	free := map[bool][]string{false: modelFree(e, false), true: modelFree(e, true)}
	next := map[bool]int{}
	return modelNamed(e, func(x bound) string {
		for {
			name := map[bool]string{false: "v", true: "h"}[x.handler] + strconv.Itoa(next[x.handler])
			next[x.handler]++
			if !slices.Contains(free[x.handler], name) {
				return name
			}
		}
	})
}

// modelUnique returns an expression in which no name is bound twice.
func modelUnique(e api.Expr) api.Expr {
	given := map[bool][]string{false: modelFree(e, false), true: modelFree(e, true)}
	all := modelNames(e)
	return modelNamed(e, func(x bound) string {
		name := x.name
		if slices.Contains(given[x.handler], name) {
			name = modelFresh(name, append(slices.Clone(given[x.handler]), all...))
		}
		given[x.handler] = append(given[x.handler], name)
		return name
	})
}

// modelNamed gives names, in the order of canonical names.
func modelNamed(e api.Expr, give func(bound) string) api.Expr {
	e = copied(e, false)
	var l []placed
	marked(&e, &l)
	names := map[string]string{}
	for _, x := range l {
		names[x.mark] = give(x.bound)
	}
	unmarked(&e, names)
	return e
}
