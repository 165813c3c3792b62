package syntax

import (
	"slices"
	"strings"
	"testing"

	"restitch/api"
	"restitch/lex"
)

// grammarText is the grammar as the chapter writes it.
const grammarText = `
program = { decl ";" }
decl    = "data" CON { TYVAR } "=" con { "|" con }
        | "input" NAME ":" type
        | "val" NAME "=" expr
        | "output" NAME "=" expr
        | "fun" NAME NAME "=" expr { "and" NAME NAME "=" expr }
con     = CON { atype }
type    = btype [ "->" type ]
btype   = CON { atype } | atype
atype   = TYVAR | CON | "(" type [ "," type [ "," type [ "," type ] ] ] ")"
expr    = "fn" NAME "=>" expr
        | "let" NAME "=" expr "in" expr
        | "let" "fun" NAME NAME "=" expr "in" expr
        | "case" expr "of" pat "=>" expr { "|" pat "=>" expr } "end"
        | "if" expr "then" expr "else" expr
        | comp
comp    = sum [ ( "<" | "=" ) sum ]
sum     = prod { ( "+" | "-" ) prod }
prod    = app { ( "*" | "/" | "%" ) app }
app     = CON { atom } | atom { atom }
atom    = INT | NAME | CON | "(" expr [ "," expr [ "," expr [ "," expr ] ] ] ")"
pat     = CON { apat } | apat
apat    = "_" | NAME | CON | "(" pat [ "," pat [ "," pat [ "," pat ] ] ] ")"
`

// grammar has the ways to write each of its symbols; those that it has none for are tokens.
type grammar struct {
	ways  map[string][][]string
	empty map[string]bool
	words []string
	fresh int
}

func newGrammar() *grammar {
	g := &grammar{ways: map[string][][]string{}, empty: map[string]bool{}, words: strings.Fields(grammarText)}
	for len(g.words) > 0 {
		name := g.words[0]
		g.words = g.words[2:]
		g.ways[name] = g.choices()
	}
	for changed := true; changed; {
		changed = false
		for name, ways := range g.ways {
			isEmpty := func(s string) bool { return g.empty[s] }
			if !g.empty[name] && slices.ContainsFunc(ways, func(w []string) bool { return all(w, isEmpty) }) {
				g.empty[name], changed = true, true
			}
		}
	}
	return g
}

// choices reads ways with | between two, up to the end of what they stand in.
func (g *grammar) choices() [][]string {
	ways := [][]string{nil}
	for len(g.words) > 0 && (len(g.words) == 1 || g.words[1] != "=") {
		word := g.words[0]
		if strings.Contains(")]}", word) {
			break
		}
		g.words = g.words[1:]
		last := &ways[len(ways)-1]
		switch word {
		case "|":
			ways = append(ways, nil)
		case "(", "[", "{":
			*last = append(*last, g.inner(word))
		default:
			*last = append(*last, word)
		}
	}
	return ways
}

// inner makes a symbol of what stands between two braces, brackets or parentheses.
func (g *grammar) inner(open string) string {
	g.fresh++
	name := "#" + strings.Repeat("i", g.fresh)
	ways := g.choices()
	g.words = g.words[1:]
	if open == "{" {
		for i := range ways {
			ways[i] = append(ways[i], name)
		}
	}
	if open != "(" {
		ways = append(ways, nil)
	}
	g.ways[name] = ways
	return name
}

// item is a way to write a symbol that was begun at a token, and how much of it there is.
type item struct {
	name      string
	way, done int
	from      int
}

// closure adds what items of the set behind some tokens lead to without another token (Earley's sets).
func (g *grammar) closure(sets [][]item, set []item) []item {
	for i := 0; i < len(set); i++ {
		add := func(x item) {
			if !slices.Contains(set, x) {
				set = append(set, x)
			}
		}
		x := set[i]
		symbols := g.ways[x.name][x.way]
		if x.done == len(symbols) {
			before := set
			if x.from < len(sets) {
				before = sets[x.from]
			}
			for _, y := range before {
				if rest := g.ways[y.name][y.way][y.done:]; len(rest) > 0 && rest[0] == x.name {
					y.done++
					add(y)
				}
			}
			continue
		}
		next := symbols[x.done]
		for way := range g.ways[next] {
			add(item{name: next, way: way, from: len(sets)})
		}
		if g.empty[next] {
			x.done++
			add(x)
		}
	}
	return set
}

// viable returns how many of the tokens begin a text of a symbol, and whether all of them are one.
func (g *grammar) viable(start string, tokens []api.Token) (count int, whole bool) {
	var first []item
	for way := range g.ways[start] {
		first = append(first, item{name: start, way: way})
	}
	sets := [][]item{g.closure(nil, first)}
	for _, t := range tokens {
		var set []item
		for _, x := range sets[len(sets)-1] {
			if rest := g.ways[x.name][x.way][x.done:]; len(rest) > 0 && isTerminal(rest[0], t) {
				x.done++
				set = append(set, x)
			}
		}
		if len(set) == 0 {
			return len(sets) - 1, false
		}
		sets = append(sets, g.closure(sets, set))
	}
	last := sets[len(sets)-1]
	return len(tokens), slices.ContainsFunc(last, func(x item) bool {
		return x.name == start && x.from == 0 && x.done == len(g.ways[start][x.way])
	})
}

func isTerminal(symbol string, t api.Token) bool {
	kinds := map[string]int{"NAME": api.TkName, "CON": api.TkCon, "TYVAR": api.TkVar, "INT": api.TkNum}
	if kind, ok := kinds[symbol]; ok {
		return t.Kind == kind
	}
	return symbol == `"`+t.Text+`"`
}

// starts are the symbols that texts are read as, with what reads them.
var starts = []struct {
	name  string
	parse func(string) (int, api.Errno)
}{
	{"program", func(s string) (int, api.Errno) { _, at, e := Parse(s); return at, e }},
	{"expr", func(s string) (int, api.Errno) { _, at, e := ParseExpr(s); return at, e }},
	{"type", func(s string) (int, api.Errno) { _, at, e := ParseType(s); return at, e }},
	{"pat", func(s string) (int, api.Errno) { _, at, e := ParsePat(s); return at, e }},
}

// everyToken is one token of each sort.
var everyToken = strings.Fields(`and case data else end fn fun if in input let of output then val
	( ) , ; : | = => -> < + - * / % _ x f A True 'a 0 ~1`)

// randomTokens makes a text of a symbol, and then changes some of its tokens.
func randomTokens(m maker, start string) []string {
	deep := m.IntN(3)
	tokens := map[string]func() []string{
		"program": func() []string { return loose{m}.program(m.program(deep)) },
		"expr":    func() []string { return loose{m}.expr(m.expr(deep)) },
		"type":    func() []string { return loose{m}.typ(m.typ(deep)) },
		"pat":     func() []string { return loose{m}.pat(m.pat(deep)) },
	}[start]()
	for m.IntN(3) > 0 {
		i := m.IntN(len(tokens) + 1)
		other := everyToken[m.IntN(len(everyToken))]
		switch j := min(i+m.IntN(3), len(tokens)); m.IntN(4) {
		case 0:
			tokens = slices.Insert(tokens, i, other)
		case 1:
			tokens = slices.Delete(tokens, i, j)
		case 2:
			tokens = slices.Replace(tokens, i, j, other)
		case 3:
			tokens = slices.Insert(tokens, i, tokens[i:j]...)
		}
	}
	return tokens
}

// P2.1: a text is read just if the grammar has it, and is wrong where nothing that the grammar has begins so.
// P2.4: what follows the token at which it is wrong does not matter.
func TestGrammar(t *testing.T) {
	g, m := newGrammar(), newMaker(5)
	seen := map[api.Errno]int{}
	for _, s := range starts {
		for range 2500 {
			words := randomTokens(m, s.name)
			if len(words) > 150 {
				continue
			}
			text := m.spaced(words)
			tokens, _, _ := lex.Scan(text)
			count, whole := g.viable(s.name, tokens)
			want, wantAt := api.OK, 0
			if !whole {
				want, wantAt = api.ErrSyntax, len(text)
			}
			if count < len(tokens) {
				wantAt = tokens[count].At
			}
			at, e := s.parse(text)
			seen[e]++
			if at != wantAt || e != want {
				t.Fatalf("%q as a text of %s = %d, %v; expected %d, %v", text, s.name, at, e, wantAt, want)
			}
			if count < len(tokens) {
				end := wantAt + len(tokens[count].Text)
				other := text[:end] + " " + strings.Join(randomTokens(m, "program"), " ")
				if at, e := s.parse(other); at != wantAt || e != want {
					t.Fatalf("%q = %d, %v; but %q = %d, %v", text, wantAt, want, other, at, e)
				}
			}
		}
	}
	if seen[api.OK] < 1000 || seen[api.ErrSyntax] < 1000 {
		t.Errorf("the errors of the texts are %v", seen)
	}
}

// P2.1: the same for all texts of few tokens.
func TestGrammarShort(t *testing.T) {
	g := newGrammar()
	for _, s := range starts {
		texts := []string{""}
		for range 4 {
			var longer []string
			for _, text := range texts {
				tokens, _, _ := lex.Scan(text)
				count, whole := g.viable(s.name, tokens)
				at, e := s.parse(text)
				switch {
				case count < len(tokens) && (at != tokens[count].At || e != api.ErrSyntax):
					t.Fatalf("%q as a text of %s = %d, %v; expected %d", text, s.name, at, e, tokens[count].At)
				case count == len(tokens) && !whole && (at != len(text) || e != api.ErrSyntax):
					t.Fatalf("%q as a text of %s = %d, %v; expected its end", text, s.name, at, e)
				case whole && (at != 0 || e != api.OK):
					t.Fatalf("%q as a text of %s = %d, %v", text, s.name, at, e)
				}
				for _, word := range everyToken {
					if count == len(tokens) {
						longer = append(longer, text+word+" ")
					}
				}
			}
			texts = longer
		}
	}
}
