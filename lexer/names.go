package lexer

import "reprise/api"

// byteKind is what a byte is within a word.
type byteKind int

// The kinds of bytes.
const (
	other byteKind = iota // no byte of a word
	small                 // a letter from a to z, or an underscore
	large                 // a letter from A to Z
	digit
)

// kindOf returns the kind of a byte; a rune of several bytes is of no word.
func kindOf(c rune) byteKind {
	switch {
	case c >= 'a' && c <= 'z', c == '_':
		return small
	case c >= 'A' && c <= 'Z':
		return large
	case c >= '0' && c <= '9':
		return digit
	}
	return other
}

// keywordsOf returns the set of the keywords with a number of bytes. They are divided by it since the set is built anew for each question, and other layers ask for each name of a tree.
func keywordsOf(length int) map[string]bool {
	switch length {
	case 2:
		return map[string]bool{"in": true, "if": true, "do": true}
	case 3:
		return map[string]bool{"fun": true, "let": true, "rec": true, "def": true}
	case 4:
		return map[string]bool{
			"then": true, "else": true, "mask": true, "drop": true,
			"true": true, "data": true, "once": true, "main": true,
		}
	case 5:
		return map[string]bool{"match": true, "named": true, "using": true, "close": true, "false": true}
	case 6:
		return map[string]bool{"handle": true, "resume": true, "return": true, "effect": true}
	case 7:
		return map[string]bool{"shallow": true}
	}
	return nil
}

// IsVar reports whether a string is a variable name.
func IsVar(s string) bool {
	return isName(s, small) && !Keyword(s)
}

// IsUpper reports whether a string is a name of a constructor, a data type or an effect.
func IsUpper(s string) bool {
	return isName(s, large)
}

// Keyword reports whether a string is a keyword.
func Keyword(s string) bool {
	return keywordsOf(len(s))[s]
}

// isName reports whether a string is a word with room in a name that begins with a byte of a given kind.
func isName(s string, first byteKind) bool {
	if s == "" || len(s) > api.MaxName {
		return false
	}
	for i, c := range s {
		k := kindOf(c)
		if k == other || i == 0 && k != first {
			return false
		}
	}
	return true
}

// isSymbol reports whether a string is a symbol.
func isSymbol(s string) bool {
	for _, x := range symbols {
		if s == x {
			return true
		}
	}
	return false
}
