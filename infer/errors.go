package infer

import (
	"errors"
	"strconv"

	"reprise/api"
)

// clash is why equations have no solution, or none for which there is room.
type clash struct{ errno api.Errno }

// Error returns the number of the error.
func (c clash) Error() string { return "error " + strconv.Itoa(int(c.errno)) }

// need leaves the typing with an error unless all is well.
func need(well bool, e api.Errno) {
	if !well {
		panic(clash{e})
	}
}

// failure returns the error with which a function was left, or OK.
func failure(f func()) (e api.Errno) {
	defer func() {
		stop := recover()
		var c clash
		if err, ok := stop.(error); ok && errors.As(err, &c) {
			e = c.errno
		} else if stop != nil {
			panic(stop)
		}
	}()
	f()
	return api.OK
}
