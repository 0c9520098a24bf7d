package decl

import (
	"slices"

	"reprise/api"
	"reprise/trees"
)

// known tells which data types have values, for each set of those of their parameters that have some. A set is a number with a bit for each parameter.
type known [api.MaxDecls][1 << api.MaxArgs]bool

// inhabited returns which data types have values. They are found in rounds, so that those that are built of themselves alone have none.
func (p program) inhabited() known {
	var before known
	for {
		after := p.round(before)
		if after == before {
			return after
		}
		before = after
	}
}

// round returns which data types have values that are built of those of types that are known to have some.
func (p program) round(before known) known {
	after := before
	for i, d := range p.Data {
		for set := range 1 << len(d.Params) {
			after[i][set] = before[i][set] || canBuild(d, p.having(&before, d.Params, set))
		}
	}
	return after
}

// canBuild reports whether a data type has a constructor each of whose arguments has a value.
func canBuild(d api.Data, has func(api.Type) bool) bool {
constructors:
	for _, c := range d.Cons {
		for _, a := range c.Args {
			if !has(a) {
				continue constructors
			}
		}
		return true
	}
	return false
}

// having returns the function that tells whether a type has a value, if of some parameters those in a set have one.
func (p program) having(k *known, params []string, set int) func(api.Type) bool {
	var has func(t api.Type) bool
	has = func(t api.Type) bool {
		switch t.Kind {
		case api.TParam:
			return set>>slices.Index(params, t.S)&1 == 1
		case api.TData:
			args := 0
			for i, a := range t.L {
				if has(a) {
					args |= 1 << i
				}
			}
			return k[p.data[t.S]][args]
		}
		return true
	}
	return has
}

// hasFunctions reports whether a type has functions.
func (p program) hasFunctions(t api.Type) bool {
	seen := map[string]bool{}
	var has func(t api.Type) bool
	has = func(t api.Type) bool {
		for _, n := range trees.Nodes(t, trees.TypeParts) {
			if n.Kind == api.TFun {
				return true
			}
			if n.Kind != api.TData || seen[n.S] {
				continue
			}
			seen[n.S] = true
			for _, c := range p.Data[p.data[n.S]].Cons {
				if slices.ContainsFunc(c.Args, has) {
					return true
				}
			}
		}
		return false
	}
	return has(t)
}
