package lexer_test

import (
	"math"
	"math/rand"
	"regexp"
	"slices"
	"strings"
	"testing"

	"reprise/api"
	"reprise/lexer"
)

// The tokens as the chapter defines them, each a pattern of the beginning of a text.
var (
	patternSpace  = regexp.MustCompile(`^(?:[ \t\n]|#[^\n]*)+`)
	patternWord   = regexp.MustCompile(`^[A-Za-z0-9_]+`)
	patternName   = regexp.MustCompile(`^[A-Za-z_][A-Za-z0-9_]{0,11}$`)
	patternInt    = regexp.MustCompile(`^(?:0|[1-9][0-9]{0,8})$`)
	patternSymbol = regexp.MustCompile(`^(?:==|->|[(){}\[\],;:.=<>|@+*-])`)
)

// modelWord returns the token that a word is.
func modelWord(w string) (api.Token, bool) {
	if patternInt.MatchString(w) {
		n := 0
		for i := range w {
			n = 10*n + int(w[i]-'0')
		}
		return api.Token{Kind: api.TkInt, N: n}, true
	}
	t := api.Token{Kind: api.TkLower, S: w}
	if w[0] >= 'A' && w[0] <= 'Z' {
		t.Kind = api.TkUpper
	} else if slices.Contains(strings.Fields(keywords), w) {
		t.Kind = api.TkWord
	}
	return t, patternName.MatchString(w)
}

// modelLex is Lex, by patterns, without the limit of a text.
func modelLex(text string) (l []api.Token, at int, e api.Errno) {
	for at < len(text) {
		rest := text[at:]
		if s := patternSpace.FindString(rest); s != "" {
			at += len(s)
			continue
		}
		part := patternWord.FindString(rest)
		t, ok := api.Token{}, false
		if part != "" {
			t, ok = modelWord(part)
		} else if part = patternSymbol.FindString(rest); part != "" {
			t, ok = api.Token{Kind: api.TkSymbol, S: part}, true
		}
		if !ok {
			return nil, at, api.ErrText
		}
		t.At = at
		l = append(l, t)
		at += len(part)
	}
	return l, 0, api.OK
}

// pieces are what random texts are made of: most of it is well formed.
func pieces() []string {
	l := strings.Fields(keywords + " " + symbols + " x y1 _ _a X Cons_2 abcdefghijkl Abcdefghijkl 0 1 42 999999999 a A z Z 9")
	return append(l, " ", "  ", "\t", "\n", "# a\n", "#", "\n#\n")
}

// badPieces are what may make a text malformed.
func badPieces() []string {
	return []string{"$", "!", "\r", "\xff", "é", "00", "01", "1000000000", "1x", "abcdefghijklm", "\x00", "\"", "/", "&", "~", "'"}
}

// randomText returns a text of up to n pieces.
func randomText(r *rand.Rand, n int) string {
	good, bad := pieces(), badPieces()
	var b strings.Builder
	for range r.Intn(n + 1) {
		if r.Intn(40) == 0 {
			b.WriteString(bad[r.Intn(len(bad))])
		} else {
			b.WriteString(good[r.Intn(len(good))])
		}
		if r.Intn(2) == 0 {
			b.WriteString(" ")
		}
	}
	return b.String()
}

// randomTexts calls f for many texts.
func randomTexts(f func(text string)) {
	r := rand.New(rand.NewSource(1))
	for range 3000 {
		f(randomText(r, 12))
	}
	for range 20 {
		f(randomText(r, 3000))
	}
}

// sameLex compares Lex with the model.
func sameLex(t *testing.T, text string) {
	t.Helper()
	l, at, e := lexer.Lex(text)
	wantL, wantAt, wantE := modelLex(text)
	if !slices.Equal(l, wantL) || at != wantAt || e != wantE {
		t.Fatalf("Lex(%q) = %v, %d, %d; want %v, %d, %d", text, l, at, e, wantL, wantAt, wantE)
	}
}

// P1.1, against the model: random texts, and all short texts of some bytes.
func TestLexModel(t *testing.T) {
	randomTexts(func(text string) { sameLex(t, text) })
	const bytes = "aZ_01 \n#=->(*$\xc3\xa9"
	var all func(text string, n int)
	all = func(text string, n int) {
		sameLex(t, text)
		for i := 0; i < len(bytes) && n > 0; i++ {
			all(text+bytes[i:i+1], n-1)
		}
	}
	all("", 4)
}

// without returns tokens without their places.
func without(l []api.Token) []api.Token {
	l = slices.Clone(l)
	for i := range l {
		l[i].At = 0
	}
	return l
}

// text returns the bytes of a token.
func text(t api.Token) string {
	if t.Kind == api.TkInt {
		return lexer.Digits(t.N)
	}
	return t.S
}

// P1.6: Lex and Join are inverse, but for space.
func TestLexAgain(t *testing.T) {
	randomTexts(func(text string) {
		l, _, e := lexer.Lex(text)
		if e != api.OK {
			return
		}
		s, e := lexer.Join(l)
		if e == api.ErrSize {
			return
		}
		again, at, e2 := lexer.Lex(s)
		if e != api.OK || e2 != api.OK || at != 0 || !slices.Equal(without(again), without(l)) {
			t.Fatalf("%q is joined to %q, %d, and has then %v, %d, %d", text, s, e, again, at, e2)
		}
		if s2, e := lexer.Join(again); s2 != s || e != api.OK {
			t.Fatalf("%q is joined to %q, %d", s, s2, e)
		}
	})
}

// P1.7: tokens are in the text, and there is nothing else but space.
func TestLexLosesNothing(t *testing.T) {
	randomTexts(func(s string) {
		l, _, e := lexer.Lex(s)
		if e != api.OK {
			return
		}
		end := 0
		for _, x := range append(l, api.Token{Kind: api.TkSymbol, At: len(s)}) {
			if x.At < end || !strings.HasPrefix(s[x.At:], text(x)) || patternSpace.ReplaceAllString(s[end:x.At], "") != "" {
				t.Fatalf("%q: token %v behind byte %d", s, x, end)
			}
			end = x.At + len(text(x))
		}
	})
}

// P1.8: two texts are accepted together, and what is before a malformed byte is accepted.
func TestLexInParts(t *testing.T) {
	last := ""
	randomTexts(func(text string) {
		l, at, e := lexer.Lex(text)
		if e == api.ErrSize {
			return
		}
		if e == api.ErrText {
			text = text[:at]
			if l, at, e = lexer.Lex(text); e != api.OK || at != 0 {
				t.Fatalf("Lex(%q) = %d, %d", text, at, e)
			}
		}
		if len(last)+1+len(text) <= api.MaxText {
			before, _, _ := lexer.Lex(last)
			both, at, e := lexer.Lex(last + "\n" + text)
			for _, x := range l {
				x.At += len(last) + 1
				before = append(before, x)
			}
			if !slices.Equal(both, before) || at != 0 || e != api.OK {
				t.Fatalf("%q and %q: %v, %d, %d", last, text, both, at, e)
			}
		}
		last = text
	})
}

// P1.9: calculations with wrapped integers are those with the integers.
func TestWrapCalculates(t *testing.T) {
	r := rand.New(rand.NewSource(2))
	for range 100000 {
		a, b := r.Intn(1<<32)-1<<31, r.Intn(1<<31)-1<<30
		x, y := lexer.Wrap(a), lexer.Wrap(b)
		if x < -api.MaxInt || x > api.MaxInt || lexer.Wrap(x) != x || (a-x)%1999999999 != 0 {
			t.Fatalf("Wrap(%d) = %d", a, x)
		}
		if a >= -api.MaxInt && a <= api.MaxInt && x != a {
			t.Fatalf("Wrap(%d) = %d", a, x)
		}
		if lexer.Wrap(x+y) != lexer.Wrap(a+b) || lexer.Wrap(x-y) != lexer.Wrap(a-b) || lexer.Wrap(x*y) != lexer.Wrap(a*b) {
			t.Fatalf("%d and %d: sum, difference or product", a, b)
		}
	}
}

// P1.10: the classes are disjoint, and what is of a class is one token.
func TestClassesAreTokens(t *testing.T) {
	check := func(s string) {
		t.Helper()
		var kinds []api.TokenKind
		if lexer.IsVar(s) {
			kinds = append(kinds, api.TkLower)
		}
		if lexer.Keyword(s) {
			kinds = append(kinds, api.TkWord)
		}
		if lexer.IsUpper(s) {
			kinds = append(kinds, api.TkUpper)
		}
		if len(kinds) > 1 {
			t.Fatalf("%q is of the classes %v", s, kinds)
		}
		for _, k := range kinds {
			wantTokens(t, s, api.Token{Kind: k, S: s})
		}
		l, _, e := lexer.Lex(s)
		one := e == api.OK && len(l) == 1 && l[0].Kind <= api.TkUpper && l[0].S == s
		if one != (len(kinds) == 1) {
			t.Fatalf("%q is of the classes %v and has the tokens %v", s, kinds, l)
		}
	}
	randomTexts(func(text string) {
		for _, s := range strings.Fields(text) {
			check(s)
		}
		check(text)
	})
	for c := range 256 {
		for d := range 256 {
			check(string([]byte{byte(c)}))
			check(string([]byte{byte(c), byte(d)}))
		}
	}
	r := rand.New(rand.NewSource(3))
	for _, n := range []int{0, 1, 9, 10, 99, 100, 99999999, 100000000, api.MaxInt} {
		wantTokens(t, lexer.Digits(n), number(n, 0))
	}
	for range 10000 {
		n := r.Intn(api.MaxInt + 1)
		wantTokens(t, lexer.Digits(n), number(n, 0))
	}
}

// P1.11, R4: arguments stay as they are, and results share nothing with them or with other results.
func TestMemory(t *testing.T) {
	l := []api.Token{lower("a", 7), number(1, 8), symbol("->", 9)}
	kept := slices.Clone(l)
	s, _ := lexer.Join(l[:3:3])
	if !slices.Equal(l, kept) {
		t.Errorf("Join changed its argument to %v", l)
	}
	l[0] = symbol("!", 0)
	if s != "a 1 ->" {
		t.Errorf("Join = %q after its argument was changed", s)
	}
	first, _, _ := lexer.Lex(s)
	second, _, _ := lexer.Lex(s)
	for i := range first {
		first[i] = api.Token{}
	}
	if third, _, _ := lexer.Lex(s); !slices.Equal(second, third) {
		t.Errorf("results share memory: %v, %v", second, third)
	}
}

// P0.6, P1.11, R8: any arguments are accepted, and equal ones give equal results, with zeros beside an error.
func TestAnything(t *testing.T) {
	r := rand.New(rand.NewSource(4))
	for range 20000 {
		b := make([]byte, r.Intn(30))
		for i := range b {
			b[i] = byte(r.Intn(256))
		}
		s := string(b)
		l, at, e := lexer.Lex(s)
		l2, at2, e2 := lexer.Lex(strings.Clone(s))
		if !slices.Equal(l, l2) || at != at2 || e != e2 || e != api.OK && l != nil || e == api.OK && at != 0 || at < 0 || at > len(s) {
			t.Fatalf("Lex(%q) = %v, %d, %d; %v, %d, %d", s, l, at, e, l2, at2, e2)
		}
		if lexer.IsVar(s) != lexer.IsVar(strings.Clone(s)) || lexer.IsUpper(s) != lexer.IsUpper(strings.Clone(s)) || lexer.Keyword(s) != lexer.Keyword(strings.Clone(s)) {
			t.Fatalf("classes of %q", s)
		}
		n := r.Intn(40) - 5
		line, column, e := lexer.Where(s, n)
		if bad := n < 0 || n > len(s); bad != (e == api.ErrArg) || bad != (line == 0) || bad != (column == 0) || !bad && e != api.OK {
			t.Fatalf("Where(%q, %d) = %d, %d, %d", s, n, line, column, e)
		}
		x := api.Token{Kind: api.TokenKind(r.Intn(9) - 2), S: s, N: int(r.Uint64()), At: n}
		if s, e := lexer.Join([]api.Token{x}); s != "" || e != api.ErrArg {
			t.Fatalf("Join(%v) = %q, %d", x, s, e)
		}
		if lexer.Wrap(x.N) != lexer.Wrap(lexer.Wrap(x.N)) || lexer.Digits(x.N) != lexer.Digits(x.N) {
			t.Fatalf("numbers of %d", x.N)
		}
	}
	lexer.Where(strings.Repeat("\n", 1<<20), math.MaxInt)
	lexer.IsVar(strings.Repeat("a", 1<<20))
	lexer.Keyword(strings.Repeat("a", 1<<20))
}
