package decl

import "reprise/api"

// replaced returns types in which arguments stand for the parameters, as new memory. It leaves the call where one of them gets too large: the arguments may be as large as any type.
func replaced(l []api.Type, params []string, args []api.Type) (out []api.Type) {
	given := map[string]api.Type{}
	for i, x := range params {
		given[x] = args[i]
	}
	size := 0
	var replace func(t api.Type, depth int, given map[string]api.Type) api.Type
	replace = func(t api.Type, depth int, given map[string]api.Type) api.Type {
		if arg, ok := given[t.S]; ok && t.Kind == api.TParam {
			return replace(arg, depth, nil) // a parameter in an argument is another one
		}
		size++
		if size > api.MaxSize || depth > api.MaxDepth {
			panic(api.ErrSize)
		}
		t.Row.Labels = append([]api.Label(nil), t.Row.Labels...)
		var parts []api.Type
		for _, part := range t.L {
			parts = append(parts, replace(part, depth+1, given))
		}
		t.L = parts
		return t
	}
	for _, t := range l {
		size = 0
		out = append(out, replace(t, 1, given))
	}
	return out
}
