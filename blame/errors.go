package blame

import "reprise/api"

// need leaves the call with an error unless all is well.
func need(well bool, e api.Errno) {
	if !well {
		panic(e)
	}
}

// failure returns the error with which a function was left, or OK.
func failure(f func()) (e api.Errno) {
	defer func() {
		stop := recover()
		if left, ok := stop.(api.Errno); ok {
			e = left
		} else if stop != nil {
			panic(stop)
		}
	}()
	f()
	return api.OK
}
