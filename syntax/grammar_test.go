package syntax_test

import (
	"regexp"
	"slices"
	"strings"
	"testing"

	"reprise/api"
	"reprise/lexer"
	"reprise/syntax"
)

// The grammar of the chapter. The rules for types differ where a program is read and where a type is.
const (
	exprGrammar = `
expr    = "fun" lower "->" expr | "let" lower "=" expr "in" expr | "rec" lower lower "=" expr "in" expr
        | "if" expr "then" expr "else" expr
        | "using" lower "[" [ upper { "," upper } ] "]" "=" expr "close" expr "in" expr | compare
compare = sum [ ( "<" | "==" ) sum ]
sum     = product { ( "+" | "-" ) product }
product = call { "*" call }
call    = head { atom }
head    = "do" lower atom | "mask" upper atom | "resume" lower atom | "drop" lower | lower "." lower atom | atom
atom    = lower | int | "true" | "false" | upper [ "[" expr { "," expr } "]" ] | "(" ")" | "(" "-" int ")" | "(" expr ")"
        | "match" expr "{" [ arm { ";" arm } ] "}" | "handle" upper expr clauses | "shallow" upper expr clauses
        | "named" lower upper expr clauses
arm     = upper { lower } "->" expr
clauses = "{" [ "return" { lower } "->" expr { ";" lower { lower } "->" expr } ] "}"
`
	declGrammar = `
program = { "data" data } { "effect" effect } { "def" lower "=" expr } "main" expr
data    = upper { lower } "{" [ cons { ";" cons } ] "}"
cons    = upper { single }
effect  = upper "{" [ op { ";" op } ] "}"
op      = [ "once" ] lower ":" applied "->" applied
label   = upper
row     = "<" [ label { "," label } ] ">"
`
	freeGrammar = `
label   = upper [ "@" positive ]
row     = "<" [ label { "," label } ] [ "|" rowvar ] ">"
`
	typeGrammar = `
type    = applied [ "->" [ row ] type ]
applied = single | dataname { single }
single  = upper | lower | "(" type ")"
`
)

// grammar has the productions of each rule; a symbol without productions is a class of tokens, one in quotation marks a token.
type grammar map[string][][]string

// readGrammar reads rules; what stands in brackets and braces gets a rule of its own.
func readGrammar(text string) grammar {
	g := grammar{}
	words := regexp.MustCompile(`"[^"]+"|[a-z]+|[^\sa-z"]`).FindAllString(text, -1)
	var alternatives func() [][]string
	alternatives = func() (l [][]string) {
		l = [][]string{nil}
		for len(words) > 0 && !slices.Contains([]string{"]", "}", ")"}, words[0]) {
			if len(words) > 1 && words[1] == "=" {
				break
			}
			w := words[0]
			words = words[1:]
			last := &l[len(l)-1]
			if w == "|" {
				l = append(l, nil)
				continue
			}
			if i := strings.Index("[{(", w); i >= 0 && len(w) == 1 {
				inner := alternatives()
				words = words[1:]
				name := "part " + lexer.Digits(len(g))
				g[name] = nil
				if w == "{" {
					for j := range inner {
						inner[j] = append(inner[j], name)
					}
				}
				if w != "(" {
					inner = append(inner, nil)
				}
				g[name] = inner
				w = name
			}
			*last = append(*last, w)
		}
		return l
	}
	for len(words) > 0 {
		name := words[0]
		words = words[2:]
		g[name] = alternatives()
	}
	return g
}

// fits reports whether a token is one of a symbol.
func fits(symbol string, t api.Token) bool {
	switch symbol {
	case "lower":
		return t.Kind == api.TkLower
	case "upper":
		return t.Kind == api.TkUpper
	case "dataname":
		return t.Kind == api.TkUpper && t.S != "Int" && t.S != "Bool" && t.S != "Unit"
	case "int":
		return t.Kind == api.TkInt
	case "positive":
		return t.Kind == api.TkInt && t.N > 0
	case "rowvar":
		return regexp.MustCompile(`^r(0|[1-9][0-9]{0,8})$`).MatchString(t.S)
	}
	return symbol == `"`+t.S+`"`
}

// item is a production of which some symbols have been met, from a place on.
type item struct {
	rule        string
	alternative int
	met, from   int
}

// nullable returns the rules that have an empty text.
func (g grammar) nullable() map[string]bool {
	out := map[string]bool{}
	for again := true; again; {
		again = false
		for name, l := range g {
			for _, p := range l {
				all := !slices.ContainsFunc(p, func(s string) bool { return !out[s] })
				if all && !out[name] {
					out[name], again = true, true
				}
			}
		}
	}
	return out
}

// refused returns the index of the first token at which the grammar cannot go on, len(l) if it cannot end there, or -1. (By Earley's algorithm.)
func (g grammar) refused(start string, l []api.Token) int {
	nullable := g.nullable()
	sets := make([][]item, len(l)+1)
	seen := make([]map[item]bool, len(l)+1)
	add := func(i int, x item) {
		if seen[i] == nil {
			seen[i] = map[item]bool{}
		}
		if !seen[i][x] {
			seen[i][x] = true
			sets[i] = append(sets[i], x)
		}
	}
	predict := func(i int, rule string) {
		for j := range g[rule] {
			add(i, item{rule: rule, alternative: j, from: i})
		}
	}
	predict(0, start)
	for i := range sets {
		if len(sets[i]) == 0 {
			return i - 1
		}
		for k := 0; k < len(sets[i]); k++ {
			x := sets[i][k]
			p := g[x.rule][x.alternative]
			next := x
			next.met++
			if x.met == len(p) {
				for _, y := range sets[x.from] {
					if q := g[y.rule][y.alternative]; y.met < len(q) && q[y.met] == x.rule {
						y.met++
						add(i, y)
					}
				}
			} else if g[p[x.met]] != nil {
				predict(i, p[x.met])
				if nullable[p[x.met]] {
					add(i, next)
				}
			} else if i < len(l) && fits(p[x.met], l[i]) {
				add(i+1, next)
			}
		}
	}
	for _, x := range sets[len(l)] {
		if x.rule == start && x.from == 0 && x.met == len(g[start][x.alternative]) {
			return -1
		}
	}
	return len(l)
}

// vocabulary has tokens of all kinds.
func vocabulary() []string {
	return strings.Fields("fun let rec in if then else match do handle shallow named mask using close resume drop return true false data effect once def main " +
		"== -> ( ) { } [ ] , ; . : = < > | @ + - * x y k t0 r1 r01 E List Int 0 1 7")
}

// jumbled changes some tokens.
func (m maker) jumbled(l []string) []string {
	for range m.Intn(4) {
		i := m.Intn(len(l) + 1)
		switch {
		case i == len(l) || m.Intn(3) == 0:
			l = slices.Insert(l, i, m.of(vocabulary()))
		case m.Intn(2) == 0:
			l = slices.Delete(l, i, i+1)
		case m.Intn(4) == 0:
			l = l[:i]
		case m.Intn(3) == 0:
			l[i] = l[m.Intn(len(l))]
		default:
			l[i] = m.of(vocabulary())
		}
	}
	return l
}

// spread puts tokens into one text, with space between them that has no meaning.
func (m maker) spread(l []string) string {
	var b strings.Builder
	for _, s := range l {
		b.WriteString(plain(s))
		b.WriteString(m.of([]string{" ", " ", "  ", "\n", "\t", "# x\n", " #\n\n"}))
	}
	return b.String()
}

// split divides the tokens of the model where one of them stands for several.
func split(l []string) (out []string) {
	for _, s := range l {
		tokens, _, _ := lexer.Lex(plain(s))
		for _, t := range tokens {
			if t.Kind == api.TkInt {
				t.S = lexer.Digits(t.N)
			}
			out = append(out, t.S)
		}
	}
	return out
}

// wantPlace compares where a text is refused with what the grammar says.
func wantPlace(t *testing.T, g grammar, start, text string, at int, e api.Errno) {
	t.Helper()
	l, _, err := lexer.Lex(text)
	if err != api.OK {
		t.Fatalf("%q: Lex: %d", text, err)
	}
	want := g.refused(start, l)
	offset := len(text)
	if want >= 0 && want < len(l) {
		offset = l[want].At
	}
	switch {
	case want < 0 && (e == api.ErrText || at != 0), want >= 0 && (e != api.ErrText || at != offset):
		t.Fatalf("%q: %d, %d; the grammar goes on up to the token %d, at %d", text, at, e, want, offset)
	}
}

// P2.3, against the grammar: texts are refused just where it cannot go on.
func TestGrammar(t *testing.T) {
	m := newMaker(6)
	ofExpr, ofType, ofProgram := readGrammar(exprGrammar), readGrammar(freeGrammar+typeGrammar), readGrammar(exprGrammar+declGrammar+typeGrammar)
	if len(ofExpr["atom"]) != 12 || len(ofExpr["expr"]) != 6 || len(ofProgram["program"]) != 1 {
		t.Fatal("the grammar is not read")
	}
	for range 4000 {
		l := split(modelExpr(m.expr(3), "expr"))
		if len(l) > 60 {
			continue
		}
		text := m.spread(m.jumbled(l))
		_, at, e := syntax.ParseExpr(text)
		wantPlace(t, ofExpr, "expr", text, at, e)
	}
	for range 4000 {
		text := m.spread(m.jumbled(split(modelType(m.typ(3, false), "type"))))
		_, at, e := syntax.ParseType(text)
		wantPlace(t, ofType, "type", text, at, e)
	}
	for range 2000 {
		l := split(slices.Concat(modelLines(m.program())...))
		if len(l) > 100 {
			continue
		}
		text := m.spread(m.jumbled(l))
		_, at, e := syntax.Parse(text)
		wantPlace(t, ofProgram, "program", text, at, e)
	}
	for range 3000 {
		var l []string
		for range m.Intn(6) {
			l = append(l, m.of(vocabulary()))
		}
		text := m.spread(l)
		_, at, e := syntax.ParseExpr(text)
		wantPlace(t, ofExpr, "expr", text, at, e)
		_, at, e = syntax.ParseType(text)
		wantPlace(t, ofType, "type", text, at, e)
		_, at, e = syntax.Parse(text)
		wantPlace(t, ofProgram, "program", text, at, e)
	}
}
