package lexer_test

import (
	"math"
	"slices"
	"strings"
	"testing"

	"reprise/api"
	"reprise/lexer"
)

const (
	keywords = "fun let rec in if then else match do handle shallow named mask using close resume drop return true false data effect once def main"
	symbols  = "== -> ( ) { } [ ] , ; . : = < > | @ + - *"
)

func lower(s string, at int) api.Token  { return api.Token{Kind: api.TkLower, S: s, At: at} }
func word(s string, at int) api.Token   { return api.Token{Kind: api.TkWord, S: s, At: at} }
func upper(s string, at int) api.Token  { return api.Token{Kind: api.TkUpper, S: s, At: at} }
func number(n, at int) api.Token        { return api.Token{Kind: api.TkInt, N: n, At: at} }
func symbol(s string, at int) api.Token { return api.Token{Kind: api.TkSymbol, S: s, At: at} }

// wantTokens checks that Lex accepts a text and returns these tokens.
func wantTokens(t *testing.T, text string, want ...api.Token) {
	t.Helper()
	l, at, e := lexer.Lex(text)
	if !slices.Equal(l, want) || at != 0 || e != api.OK {
		t.Errorf("Lex(%q) = %v, %d, %d; want %v, 0, OK", text, l, at, e, want)
	}
}

// wantMalformed checks that Lex refuses a text at a byte.
func wantMalformed(t *testing.T, text string, want int) {
	t.Helper()
	l, at, e := lexer.Lex(text)
	if len(l) != 0 || at != want || e != api.ErrText {
		t.Errorf("Lex(%q) = %v, %d, %d; want nothing, %d, ErrText", text, l, at, e, want)
	}
}

// P1.1, with the examples of the chapter.
func TestLexExamples(t *testing.T) {
	wantTokens(t, "fun x_1 -> x_1 == 10 # end",
		word("fun", 0), lower("x_1", 4), symbol("->", 8), lower("x_1", 11), symbol("==", 15), number(10, 18))
	wantTokens(t, "a ->b", lower("a", 0), symbol("->", 2), lower("b", 4))
	for _, text := range []string{"x 1a", "x 01", "x $", "x 1000000000", "x abcdefghijklm"} {
		wantMalformed(t, text, 2)
	}
	wantTokens(t, "")
	wantTokens(t, "#")
}

// P1.1: each keyword and each symbol, alone and among others.
func TestLexKeywordsAndSymbols(t *testing.T) {
	for _, k := range strings.Fields(keywords) {
		wantTokens(t, k, word(k, 0))
		wantTokens(t, " "+k+"+", word(k, 1), symbol("+", 1+len(k)))
		wantTokens(t, k+"_", lower(k+"_", 0))
		wantTokens(t, "_"+k, lower("_"+k, 0))
		big := strings.ToUpper(k[:1]) + k[1:]
		wantTokens(t, big, upper(big, 0))
	}
	for _, s := range strings.Fields(symbols) {
		wantTokens(t, s, symbol(s, 0))
		wantTokens(t, "x"+s+"Y", lower("x", 0), symbol(s, 1), upper("Y", 1+len(s)))
	}
}

// P1.1: where == or -> begins, this symbol is meant.
func TestLexLongSymbols(t *testing.T) {
	wantTokens(t, "===", symbol("==", 0), symbol("=", 2))
	wantTokens(t, "====", symbol("==", 0), symbol("==", 2))
	wantTokens(t, "= =", symbol("=", 0), symbol("=", 2))
	wantTokens(t, "-->", symbol("-", 0), symbol("->", 1))
	wantTokens(t, "->>", symbol("->", 0), symbol(">", 2))
	wantTokens(t, "- >", symbol("-", 0), symbol(">", 2))
	wantTokens(t, "=->", symbol("=", 0), symbol("->", 1))
	wantTokens(t, "<-1", symbol("<", 0), symbol("-", 1), number(1, 2))
}

// P1.1: space is a blank, a tabulator, a line feed and a comment, and nothing else.
func TestLexSpace(t *testing.T) {
	wantTokens(t, " \t\n")
	wantTokens(t, "a\tb\nc d", lower("a", 0), lower("b", 2), lower("c", 4), lower("d", 6))
	wantTokens(t, "a#b\nc", lower("a", 0), lower("c", 4))
	wantTokens(t, "# a # b\n#\n#$\xff\x00\r\nD", upper("D", 16))
	wantTokens(t, "1#", number(1, 0))
	wantTokens(t, "#\n\n#")
	for _, c := range []string{"\r", "\v", "\f", "\x00", "\u00a0", "\u2003"} {
		wantMalformed(t, "a"+c, 1)
		wantMalformed(t, c, 0)
	}
}

// P1.1: words that are at a limit, and words that are no token.
func TestLexWords(t *testing.T) {
	wantTokens(t, "_ _1 A_b x9Y", lower("_", 0), lower("_1", 2), upper("A_b", 5), lower("x9Y", 9))
	wantTokens(t, "abcdefghijkl", lower("abcdefghijkl", 0))
	wantTokens(t, "Abcdefghijkl", upper("Abcdefghijkl", 0))
	wantTokens(t, "0 1 10 999999999", number(0, 0), number(1, 2), number(10, 4), number(999999999, 7))
	for _, w := range []string{
		"abcdefghijklm", "Abcdefghijklm", "____________1", "1a", "1_", "1A", "0a", "00", "01", "000", "0000000000001",
		"1000000000", "9999999999", "18446744073709551617", "99999999999999999999999999999999",
	} {
		wantMalformed(t, w, 0)
		wantMalformed(t, "x\n"+w+" y", 2)
		wantMalformed(t, "+"+w+"$", 1)
	}
}

// P1.1: bytes with which nothing begins; bytes of more than 7 bits are of no word.
func TestLexOtherBytes(t *testing.T) {
	known := " \t\n#_" + strings.ReplaceAll(symbols, " ", "")
	for c := 0; c < 256; c++ {
		b := string([]byte{byte(c)})
		letter := b >= "a" && b <= "z" || b >= "A" && b <= "Z" || b >= "0" && b <= "9"
		if letter || strings.Contains(known, b) {
			if l, at, e := lexer.Lex(b); len(l) > 1 || at != 0 || e != api.OK {
				t.Errorf("Lex(%q) = %v, %d, %d", b, l, at, e)
			}
			continue
		}
		wantMalformed(t, b, 0)
		wantMalformed(t, "a"+b, 1)
		wantMalformed(t, "1"+b, 1)
		wantMalformed(t, "== "+b+" $", 3)
	}
	wantMalformed(t, "é", 0)
	wantMalformed(t, "aé", 1)
	wantMalformed(t, "a\U0001F600", 1)
}

// P1.1, R1, R2, R7: a text may have MaxText bytes, and its size is asked first.
func TestLexSize(t *testing.T) {
	full := strings.Repeat("a ", api.MaxText/2)
	if l, at, e := lexer.Lex(full); len(l) != api.MaxText/2 || at != 0 || e != api.OK {
		t.Errorf("full text: %d tokens, %d, %d", len(l), at, e)
	}
	for _, text := range []string{full + " ", strings.Repeat(" ", api.MaxText+1), "$" + full} {
		if l, at, e := lexer.Lex(text); l != nil || at != 0 || e != api.ErrSize {
			t.Errorf("long text: %d tokens, %d, %d", len(l), at, e)
		}
	}
	wantMalformed(t, full[1:]+"$", api.MaxText-1)
}

// P1.2 and R3.
func TestJoin(t *testing.T) {
	for _, c := range []struct {
		want string
		l    []api.Token
	}{
		{"", nil},
		{"", []api.Token{}},
		{"Cons ( 7 )", []api.Token{upper("Cons", 0), symbol("(", 0), number(7, 0), symbol(")", 0)}},
		{"let x = 0", []api.Token{word("let", 9), lower("x", -1), symbol("=", 7), number(0, math.MinInt)}},
		{"- > -> = == =", []api.Token{symbol("-", 0), symbol(">", 0), symbol("->", 0), symbol("=", 0), symbol("==", 0), symbol("=", 0)}},
		{"abcdefghijkl 999999999", []api.Token{lower("abcdefghijkl", 0), number(api.MaxInt, math.MaxInt)}},
	} {
		if s, e := lexer.Join(c.l); s != c.want || e != api.OK {
			t.Errorf("Join(%v) = %q, %d; want %q", c.l, s, e, c.want)
		}
	}
	for _, w := range strings.Fields(keywords + " x _ X_1 ") {
		kind := api.TkWord
		if lexer.IsVar(w) {
			kind = api.TkLower
		} else if lexer.IsUpper(w) {
			kind = api.TkUpper
		}
		if s, e := lexer.Join([]api.Token{{Kind: kind, S: w}}); s != w || e != api.OK {
			t.Errorf("Join of %q = %q, %d", w, s, e)
		}
	}
}

// P1.2: no such Kind, or S and N that are not as the Kind says.
func TestJoinArg(t *testing.T) {
	for _, x := range []api.Token{
		lower("let", 0), lower("X", 0), lower("", 0), lower("1", 0), lower("12", 0), lower("+", 0), lower("abcdefghijklm", 0),
		lower("a b", 0), lower("a ", 0), lower("\xff", 0), lower("é", 0),
		upper("x", 0), upper("", 0), upper("A b", 0), upper("let", 0), upper("_A", 0), upper("Abcdefghijklm", 0),
		word("x", 0), word("Let", 0), word("", 0), word("let ", 0), word("lets", 0),
		symbol("!", 0), symbol("", 0), symbol("=>", 0), symbol("==>", 0), symbol(" ", 0), symbol("#", 0), symbol("x", 0), symbol("1", 0), symbol("()", 0),
		number(-1, 0), number(api.MaxInt+1, 0), number(math.MinInt, 0), number(math.MaxInt, 0),
		{Kind: api.TkInt, N: 1, S: "1"}, {Kind: api.TkInt, S: "0"}, {Kind: api.TkInt, N: 1, S: "x"},
		{Kind: api.TkLower, S: "x", N: 1}, {Kind: api.TkWord, S: "in", N: -1}, {Kind: api.TkUpper, S: "X", N: 1}, {Kind: api.TkSymbol, S: "+", N: 1},
		{Kind: 5, S: "x"}, {Kind: 5, N: 1}, {Kind: -1}, {Kind: -1, S: "x"}, {Kind: math.MaxInt, S: "+"},
	} {
		for _, l := range [][]api.Token{{x}, {lower("a", 0), x}, {x, symbol("!", 0)}} {
			if s, e := lexer.Join(l); s != "" || e != api.ErrArg {
				t.Errorf("Join(%v) = %q, %d; want ErrArg", l, s, e)
			}
		}
	}
}

// P1.2, R1, R2, R7: the joined text may have MaxText bytes; a token that is no token counts first.
func TestJoinSize(t *testing.T) {
	l := slices.Repeat([]api.Token{symbol("(", 0)}, api.MaxText/2)
	l[0].S = "->"
	if s, e := lexer.Join(l); len(s) != api.MaxText || e != api.OK {
		t.Errorf("Join: %d bytes, %d", len(s), e)
	}
	l[1] = number(10, 0)
	if s, e := lexer.Join(l); s != "" || e != api.ErrSize {
		t.Errorf("Join: %d bytes, %d", len(s), e)
	}
	l[len(l)-1].S = "!"
	if s, e := lexer.Join(l); s != "" || e != api.ErrArg {
		t.Errorf("Join: %d bytes, %d", len(s), e)
	}
}

// P1.3; R5: any integer can be asked for.
func TestWhere(t *testing.T) {
	for _, c := range []struct {
		text             string
		at, line, column int
		e                api.Errno
	}{
		{"ab\nc", 0, 1, 1, api.OK}, {"ab\nc", 1, 1, 2, api.OK}, {"ab\nc", 2, 1, 3, api.OK},
		{"ab\nc", 3, 2, 1, api.OK}, {"ab\nc", 4, 2, 2, api.OK}, {"ab\nc", 5, 0, 0, api.ErrArg}, {"ab\nc", -1, 0, 0, api.ErrArg},
		{"", 0, 1, 1, api.OK}, {"", 1, 0, 0, api.ErrArg}, {"\n", 0, 1, 1, api.OK}, {"\n", 1, 2, 1, api.OK},
		{"\n\n", 1, 2, 1, api.OK}, {"\n\n", 2, 3, 1, api.OK}, {"a\n\nb", 3, 3, 1, api.OK},
		{"é\r\tx", 4, 1, 5, api.OK}, {"$\xff\n$", 3, 2, 1, api.OK},
		{"x", math.MinInt, 0, 0, api.ErrArg}, {"x", math.MaxInt, 0, 0, api.ErrArg},
	} {
		line, column, e := lexer.Where(c.text, c.at)
		if line != c.line || column != c.column || e != c.e {
			t.Errorf("Where(%q, %d) = %d, %d, %d", c.text, c.at, line, column, e)
		}
	}
	long := strings.Repeat("12345\n", api.MaxText)
	if line, column, e := lexer.Where(long, len(long)-2); line != api.MaxText || column != 5 || e != api.OK {
		t.Errorf("Where in a long text = %d, %d, %d", line, column, e)
	}
}

// P1.4 and R9.
func TestWrapAndDigits(t *testing.T) {
	for n, want := range map[int]int{
		0: 0, 1: 1, -1: -1, 999999999: 999999999, -999999999: -999999999,
		1000000000: -999999999, -1000000000: 999999999, 1999999998: -1, -1999999998: 1,
		1999999999: 0, -1999999999: 0, 2000000000: 1, 2999999998: 999999999, 2999999999: -999999999, -2999999999: 999999999,
	} {
		if got := lexer.Wrap(n); got != want {
			t.Errorf("Wrap(%d) = %d, want %d", n, got, want)
		}
	}
	for _, n := range []int{math.MinInt, math.MinInt + 1, math.MaxInt, math.MaxInt - 1} {
		if got := lexer.Wrap(n); got < -api.MaxInt || got > api.MaxInt || (n%1999999999-got)%1999999999 != 0 {
			t.Errorf("Wrap(%d) = %d", n, got)
		}
	}
	for n, want := range map[int]string{
		0: "0", 7: "7", -7: "-7", 10: "10", -70: "-70", 999999999: "999999999", -999999999: "-999999999",
		math.MaxInt64: "9223372036854775807", math.MinInt64: "-9223372036854775808",
	} {
		if got := lexer.Digits(n); got != want {
			t.Errorf("Digits(%d) = %q, want %q", n, got, want)
		}
	}
}

// P1.5.
func TestClasses(t *testing.T) {
	check := func(s string, isVar, isUpper, isKeyword bool) {
		t.Helper()
		if lexer.IsVar(s) != isVar || lexer.IsUpper(s) != isUpper || lexer.Keyword(s) != isKeyword {
			t.Errorf("%q: IsVar %t, IsUpper %t, Keyword %t", s, lexer.IsVar(s), lexer.IsUpper(s), lexer.Keyword(s))
		}
	}
	for _, s := range strings.Fields(keywords) {
		check(s, false, false, true)
		check(s+"1", true, false, false)
		check(s[:len(s)-1]+"_", true, false, false)
		check(strings.ToUpper(s), false, true, false)
		check(" "+s, false, false, false)
		check(s+"\n", false, false, false)
	}
	for _, s := range []string{"_", "x", "x9", "__", "_A", "aZ_9", "z", "a", "abcdefghijkl", "i", "fu", "funs"} {
		check(s, true, false, false)
	}
	for _, s := range []string{"X", "Return", "A", "Z", "X_9z", "Abcdefghijkl"} {
		check(s, false, true, false)
	}
	for _, s := range []string{"", "1", "1a", "9", "a b", "a-b", "a.", "é", "aé", "É", "\xff", "a\x00", "abcdefghijklm", "Abcdefghijklm", "==", "(", " x", "x ", "`", "{", "@", "["} {
		check(s, false, false, false)
	}
	for _, s := range strings.Fields(symbols) {
		check(s, false, false, false)
	}
}
