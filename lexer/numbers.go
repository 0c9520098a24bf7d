package lexer

import (
	"strconv"

	"reprise/api"
)

// modulus is the number of integers from -MaxInt to MaxInt.
const modulus = 2*api.MaxInt + 1

// Wrap returns the integer from -MaxInt to MaxInt that n wraps around to.
func Wrap(n int) int {
	n %= modulus
	if n > api.MaxInt {
		return n - modulus
	}
	if n < -api.MaxInt {
		return n + modulus
	}
	return n
}

// Digits returns an integer in decimal digits.
func Digits(n int) string {
	return strconv.Itoa(n)
}

// integer returns the integer whose digits a string is, and whether it is one from 0 to MaxInt.
func integer(s string) (n int, ok bool) {
	if s == "" || len(s) > 1 && s[0] == '0' {
		return 0, false
	}
	for _, c := range s {
		if kindOf(c) != digit {
			return 0, false
		}
		n = 10*n + int(c-'0')
		if n > api.MaxInt {
			return 0, false
		}
	}
	return n, true
}
