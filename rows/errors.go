package rows

import (
	"errors"

	"reprise/api"
	"reprise/lexer"
)

// failure is the error of equations that are left unsolved.
type failure struct{ errno api.Errno }

// Error returns the number of the error.
func (f failure) Error() string { return "error " + lexer.Digits(int(f.errno)) }

// failed returns the failure of an error, or nil for OK.
func failed(e api.Errno) error {
	if e == api.OK {
		return nil
	}
	return failure{e}
}

// errnoOf returns the error of a failure, or OK for nil.
func errnoOf(err error) api.Errno {
	var f failure
	if errors.As(err, &f) {
		return f.errno
	}
	return api.OK
}
