package decl

import "reprise/api"

// need leaves the call at an error.
func need(err api.Errno) {
	if err != api.OK {
		panic(err)
	}
}

// failure returns the error at which a function was left, or OK.
func failure(f func()) (err api.Errno) {
	defer func() {
		if stop := recover(); stop != nil {
			err = stop.(api.Errno)
		}
	}()
	f()
	return api.OK
}

// result returns what a function returns, or the zero value and the error at which it was left.
func result[T any](f func() T) (x T, err api.Errno) {
	err = failure(func() { x = f() })
	return x, err
}
