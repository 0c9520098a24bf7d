package rows

import "reprise/api"

// hasRoom reports whether what a type becomes is within the limits. It is told which types variables are bound to, and how many labels a row becomes. It looks no further than to where it is too large or too deep: what variables stand for may be larger than could ever be written down.
func hasRoom(t api.Type, boundTo func(n int) (api.Type, bool), labels func(r api.Row) int) bool {
	size := 0
	var count func(t api.Type, level int) bool
	count = func(t api.Type, level int) bool {
		if t.Kind == api.TVar {
			if to, ok := boundTo(t.N); ok {
				return count(to, level)
			}
		}
		size++
		if size > api.MaxSize || level > api.MaxDepth || t.Kind == api.TFun && labels(t.Row) > 2*api.MaxDecls {
			return false
		}
		for _, part := range t.L {
			if !count(part, level+1) {
				return false
			}
		}
		return true
	}
	return count(t, 1)
}
