package lex

import (
	"math"
	"slices"
	"strconv"
	"strings"
	"testing"

	"restitch/api"
)

// scans are the three functions that read a whole text, with the length that each of them takes.
var scans = []struct {
	name string
	most int
	scan func(string) (int, api.Errno)
}{
	{"Scan", api.MaxText, func(s string) (int, api.Errno) { _, at, e := Scan(s); return at, e }},
	{"Long", api.MaxLong, func(s string) (int, api.Errno) { _, at, e := Long(s); return at, e }},
	{"Strip", api.MaxText, func(s string) (int, api.Errno) { _, at, e := Strip(s); return at, e }},
}

var (
	allWords  = strings.Fields("and case data else end fn fun if in input let of output then val")
	allSigns  = strings.Fields("( ) , ; : | = => -> < + - * / % _")
	longName  = strings.Repeat("a", api.MaxName)
	longInt   = strconv.Itoa(math.MaxInt)
	leastInt  = "~" + strconv.Itoa(math.MinInt)[1:]
	deepest   = strings.Repeat("(*", api.MaxDeep)
	deepestIn = strings.Repeat("*)", api.MaxDeep)
)

func num(n, at int) api.Token {
	return api.Token{Kind: api.TkNum, Num: n, Text: Digits(n), At: at}
}

func tok(kind int, text string, at int) api.Token {
	return api.Token{Kind: kind, Text: text, At: at}
}

// rawToken makes a token that need not be valid.
func rawToken(kind, num int, text string, at int) api.Token {
	return api.Token{Kind: kind, Num: num, Text: text, At: at}
}

// P1.1: the tokens of a text.
func TestScanTokens(t *testing.T) {
	for _, c := range []struct {
		text string
		want []api.Token
	}{
		{"", nil},
		{" \t\r\n(* only *)", nil},
		{"fun f x=x+~1(* a (* b *) *);", []api.Token{
			tok(api.TkWord, "fun", 0), tok(api.TkName, "f", 4), tok(api.TkName, "x", 6), tok(api.TkSign, "=", 7),
			tok(api.TkName, "x", 8), tok(api.TkSign, "+", 9), num(-1, 10), tok(api.TkSign, ";", 27)}},
		{"x'a", []api.Token{tok(api.TkName, "x", 0), tok(api.TkVar, "'a", 1)}},
		{"x'1a", []api.Token{tok(api.TkName, "x'1", 0), tok(api.TkName, "a", 3)}},
		{"x'01'a", []api.Token{tok(api.TkName, "x'01", 0), tok(api.TkVar, "'a", 4)}},
		{"B_9'2C", []api.Token{tok(api.TkCon, "B_9'2", 0), tok(api.TkCon, "C", 5)}},
		{"in'1 in'a", []api.Token{tok(api.TkName, "in'1", 0), tok(api.TkWord, "in", 5), tok(api.TkVar, "'a", 7)}},
		{"'in'let", []api.Token{tok(api.TkVar, "'in", 0), tok(api.TkVar, "'let", 3)}},
		{"inn In i", []api.Token{tok(api.TkName, "inn", 0), tok(api.TkCon, "In", 4), tok(api.TkName, "i", 7)}},
		{"_a__1", []api.Token{tok(api.TkSign, "_", 0), tok(api.TkName, "a__1", 1)}},
		{"_1", []api.Token{tok(api.TkSign, "_", 0), num(1, 1)}},
		{"==>->-", []api.Token{tok(api.TkSign, "=", 0), tok(api.TkSign, "=>", 1), tok(api.TkSign, "->", 3), tok(api.TkSign, "-", 5)}},
		{"5->3-2", []api.Token{num(5, 0), tok(api.TkSign, "->", 1), num(3, 3), tok(api.TkSign, "-", 4), num(2, 5)}},
		{"~5~60 0", []api.Token{num(-5, 0), num(-60, 2), num(0, 6)}},
		{"1(**)2", []api.Token{num(1, 0), num(2, 5)}},
		{"(*)*)x", []api.Token{tok(api.TkName, "x", 5)}},
		{"(***)x", []api.Token{tok(api.TkName, "x", 5)}},
		{"(*(*)*)*)x", []api.Token{tok(api.TkName, "x", 9)}},
		{"(*!\x00~0*)(*(**)(**)*)x", []api.Token{tok(api.TkName, "x", 20)}},
		{"( *)", []api.Token{tok(api.TkSign, "(", 0), tok(api.TkSign, "*", 2), tok(api.TkSign, ")", 3)}},
		{longInt + "," + leastInt, []api.Token{num(math.MaxInt, 0), tok(api.TkSign, ",", len(longInt)), num(math.MinInt, len(longInt)+1)}},
		{longName + "'a", []api.Token{tok(api.TkName, longName, 0), tok(api.TkVar, "'a", api.MaxName)}},
		{deepest + deepestIn + "x", []api.Token{tok(api.TkName, "x", 4*api.MaxDeep)}},
		{"a\tb\rc\nd e", []api.Token{tok(api.TkName, "a", 0), tok(api.TkName, "b", 2), tok(api.TkName, "c", 4), tok(api.TkName, "d", 6), tok(api.TkName, "e", 8)}},
	} {
		for _, scan := range []func(string) ([]api.Token, int, api.Errno){Scan, Long} {
			l, at, e := scan(c.text)
			if !slices.Equal(l, c.want) || at != 0 || e != api.OK {
				t.Errorf("tokens of %q = %+v, %d, %v; expected %+v", c.text, l, at, e, c.want)
			}
		}
	}
}

// P1.1, P1.6: where a text is wrong, and how.
func TestScanErrors(t *testing.T) {
	for _, c := range []struct {
		text string
		at   int
		e    api.Errno
	}{
		{"x'1 'a x'a (*)", 11, api.ErrComment},
		{"(*", 0, api.ErrComment},
		{"a(*(**)", 1, api.ErrComment},
		{"a (**) (* (* *", 7, api.ErrComment},
		{"(* *", 0, api.ErrComment},
		{deepest, 0, api.ErrComment},
		{deepest + "(*", 2 * api.MaxDeep, api.ErrDeep},
		{"a " + deepest + "*) (* x(*" + deepestIn, 2 + 2*api.MaxDeep + 7, api.ErrDeep},
		{deepest + "(*" + deepestIn + "*)", 2 * api.MaxDeep, api.ErrDeep},
		{"01", 0, api.ErrDigit},
		{"00", 0, api.ErrDigit},
		{"~0", 0, api.ErrDigit},
		{"~01", 0, api.ErrDigit},
		{"~", 0, api.ErrDigit},
		{"~~1", 0, api.ErrDigit},
		{"~a", 0, api.ErrDigit},
		{"a ~ 1", 2, api.ErrDigit},
		{"3a", 0, api.ErrDigit},
		{" 3Z", 1, api.ErrDigit},
		{"3_", 0, api.ErrDigit},
		{"3'", 0, api.ErrDigit},
		{"3'a", 0, api.ErrDigit},
		{"9223372036854775808", 0, api.ErrDigit},
		{"~9223372036854775809", 0, api.ErrDigit},
		{"x " + strings.Repeat("9", 1000), 2, api.ErrDigit},
		{"a !", 2, api.ErrByte},
		{"a\x00", 1, api.ErrByte},
		{"\x00", 0, api.ErrByte},
		{"a\x0b", 1, api.ErrByte},
		{"a\x0c", 1, api.ErrByte},
		{"3é", 1, api.ErrByte},
		{"é", 0, api.ErrByte},
		{"a.", 1, api.ErrByte},
		{">", 0, api.ErrByte},
		{"=>>", 2, api.ErrByte},
		{"x'", 1, api.ErrByte},
		{"in' a", 2, api.ErrByte},
		{"x''1", 1, api.ErrByte},
		{"x'1'2", 3, api.ErrByte},
		{"'a'1", 2, api.ErrByte},
		{"'A", 0, api.ErrByte},
		{"'_a", 0, api.ErrByte},
		{"'1", 0, api.ErrByte},
		{"''a", 0, api.ErrByte},
		{"! 01", 0, api.ErrByte},
		{"01 !", 0, api.ErrDigit},
		{"! (*", 0, api.ErrByte},
		{"a " + longName + "a", 2, api.ErrLong},
		{longName + "_", 0, api.ErrLong},
		{longName + "'1", 0, api.ErrLong},
		{longName + "' 1", api.MaxName, api.ErrByte},
		{" A" + longName, 1, api.ErrLong},
		{"'" + longName, 0, api.ErrLong},
		{"a'" + strings.Repeat("1", api.MaxName-1), 0, api.ErrLong},
	} {
		for _, s := range scans {
			if at, e := s.scan(c.text); at != c.at || e != c.e {
				t.Errorf("%s(%q) = %d, %v; expected %d, %v", s.name, c.text, at, e, c.at, c.e)
			}
		}
		l, _, _ := Scan(c.text)
		m, _, _ := Long(c.text)
		s, _, _ := Strip(c.text)
		if len(l) != 0 || len(m) != 0 || s != "" {
			t.Errorf("the results of %q, which is wrong, are %v, %v, %q", c.text, l, m, s)
		}
	}
}

// P1.1, P1.6: the longest texts.
func TestScanLengths(t *testing.T) {
	for _, s := range scans {
		for _, begin := range []string{"", "!", "(*", "01"} {
			text := begin + strings.Repeat(" ", s.most+1-len(begin))
			if at, e := s.scan(text); at != 0 || e != api.ErrLong {
				t.Errorf("%s of %d bytes with %q first = %d, %v", s.name, len(text), begin, at, e)
			}
		}
		if at, e := s.scan(strings.Repeat("a ", s.most/2)); at != 0 || e != api.OK {
			t.Errorf("%s of the longest text = %d, %v", s.name, at, e)
		}
		if at, e := s.scan(strings.Repeat(" ", s.most-1) + "!"); at != s.most-1 || e != api.ErrByte {
			t.Errorf("%s of the longest text, wrong at its end = %d, %v", s.name, at, e)
		}
	}
	if l, _, e := Long(strings.Repeat(")", api.MaxLong)); len(l) != api.MaxLong || e != api.OK {
		t.Errorf("Long of the longest text has %d tokens, %v", len(l), e)
	}
}

// P1.1: no other byte begins a token, and no other byte is a space.
func TestEveryByte(t *testing.T) {
	for b := range 256 {
		text := string([]byte{byte(b)})
		l, at, e := Scan(text)
		letter := b >= 'a' && b <= 'z' || b >= 'A' && b <= 'Z'
		var tokens int
		var want api.Errno
		switch {
		case b == '~':
			want = api.ErrDigit
		case letter || b >= '0' && b <= '9' || slices.Contains(allSigns, text):
			tokens = 1
		case b != 9 && b != 10 && b != 13 && b != 32:
			want = api.ErrByte
		}
		if len(l) != tokens || at != 0 || e != want {
			t.Errorf("Scan(%q) = %v, %d, %v", text, l, at, e)
		}
	}
}

// P1.2: Join.
func TestJoin(t *testing.T) {
	if s := Join(nil); s != "" {
		t.Errorf("Join of no token = %q", s)
	}
	if s := Join([]api.Token{num(7, 3)}); s != "7" {
		t.Errorf("Join of 7 = %q", s)
	}
	l, _, _ := Scan("f(x,_)=>3(**)~4 'a A'1 in")
	if s := Join(l); s != "f ( x , _ ) => 3 ~4 'a A'1 in" {
		t.Errorf("Join = %q", s)
	}
	for i := range l {
		bad := slices.Clone(l)
		bad[i].At = -1
		if s := Join(bad); s != "" {
			t.Errorf("Join with a token %d that is not valid = %q", i, s)
		}
	}
	if s := Join(slices.Repeat([]api.Token{tok(api.TkWord, "in", 0)}, 20000)); s != strings.Repeat("in ", 19999)+"in" {
		t.Errorf("Join of 20000 words has %d bytes", len(s))
	}
}

// P1.2: Check.
func TestCheck(t *testing.T) {
	good := []api.Token{
		num(0, 0), num(7, math.MaxInt), num(-7, 1), num(math.MaxInt, 0), num(math.MinInt, 0),
		tok(api.TkName, "f", 5), tok(api.TkName, "f'1", 5), tok(api.TkName, "in'1", 0), tok(api.TkName, longName, 0),
		tok(api.TkCon, "F", 5), tok(api.TkCon, "F'1", 5), tok(api.TkVar, "'in", 0), tok(api.TkVar, "'aB_1", 0),
	}
	for _, w := range allWords {
		good = append(good, tok(api.TkWord, w, 1))
	}
	for _, s := range allSigns {
		good = append(good, tok(api.TkSign, s, 1))
	}
	for _, g := range good {
		if e := Check(g); e != api.OK {
			t.Errorf("Check(%+v) = %v", g, e)
		}
		for kind := -1; kind <= 7; kind++ {
			bad := g
			bad.Kind = kind
			if e := Check(bad); kind != g.Kind && e != api.ErrToken {
				t.Errorf("Check(%+v) = %v", bad, e)
			}
		}
		for _, bad := range []api.Token{
			rawToken(g.Kind, g.Num+1, g.Text, g.At), rawToken(g.Kind, g.Num, g.Text, -1), rawToken(g.Kind, g.Num, g.Text, math.MinInt),
			rawToken(g.Kind, g.Num, "", g.At), rawToken(g.Kind, g.Num, " "+g.Text, g.At), rawToken(g.Kind, g.Num, g.Text+" ", g.At),
			rawToken(g.Kind, g.Num, g.Text+"(**)", g.At),
		} {
			if e := Check(bad); e != api.ErrToken {
				t.Errorf("Check(%+v) = %v", bad, e)
			}
		}
	}
	for _, bad := range []api.Token{{}, {Text: "!"}, {Kind: api.TkNum}, {Kind: api.TkNum, Text: "-1", Num: -1}, {Kind: api.TkNum, Text: "01", Num: 1},
		{Kind: api.TkSign, Text: "(*"}, {Kind: api.TkSign, Text: ">"}, {Kind: api.TkName, Text: longName + "a"}, {Kind: api.TkName, Text: "in"}} {
		if e := Check(bad); e != api.ErrToken {
			t.Errorf("Check(%+v) = %v", bad, e)
		}
	}
}

// P1.2: Same looks at everything but At, of tokens that need not be valid.
func TestSame(t *testing.T) {
	a, b := rawToken(1, 2, "a", 3), rawToken(9, -2, "!", -3)
	l := []api.Token{a, b}
	if !Same(nil, []api.Token{}) || !Same(l, slices.Clone(l)) || !Same(l, []api.Token{rawToken(1, 2, "a", 0), rawToken(9, -2, "!", 1)}) {
		t.Error("equal lists are not the same")
	}
	for _, m := range [][]api.Token{
		nil, {a}, {a, b, a}, {b, a}, {rawToken(2, 2, "a", 3), b}, {rawToken(1, 3, "a", 3), b}, {rawToken(1, 2, "b", 3), b},
		{a, rawToken(9, -2, "", -3)},
	} {
		if Same(l, m) || Same(m, l) {
			t.Errorf("%v is the same as %v", l, m)
		}
	}
}

// P1.3: kinds of names.
func TestNames(t *testing.T) {
	type answer struct {
		kind  int
		plain bool
	}
	cases := map[string]answer{
		"": {}, " ": {}, " a": {}, "a ": {}, "a b": {}, "a(**)": {}, "(**)a": {}, "(**)": {}, "(*": {}, "!": {}, "\x00": {}, "a\x00": {},
		"f": {api.TkName, true}, "f_A9": {api.TkName, true}, "f'1": {api.TkName, false}, "f'": {}, "f'a": {}, "f'1a": {}, "f'1'2": {}, "f''1": {},
		"in'1": {api.TkName, false}, "inn": {api.TkName, true}, "_f": {}, "9f": {}, "é": {},
		"F": {api.TkCon, true}, "F_a9": {api.TkCon, true}, "F'12": {api.TkCon, false}, "F'": {}, "In": {api.TkCon, true},
		"'a": {api.TkVar, true}, "'in": {api.TkVar, true}, "'aB_9": {api.TkVar, true}, "'": {}, "'A": {}, "'1": {}, "'a'1": {}, "'_": {}, "'a'": {},
		longName: {api.TkName, true}, longName + "a": {}, longName[1:] + "'1": {}, longName[2:] + "'1": {api.TkName, false},
		"A" + longName[1:]: {api.TkCon, true}, "A" + longName: {}, "'" + longName[1:]: {api.TkVar, true}, "'" + longName: {},
		"0": {api.TkNum, false}, "~12": {api.TkNum, false}, "12": {api.TkNum, false}, "01": {}, "~": {}, "9223372036854775808": {}, "1 ": {},
		">": {}, "= >": {}, "=>>": {}, "==": {}, "__": {}, strings.Repeat("a", 100000): {},
	}
	for _, w := range allWords {
		cases[w] = answer{api.TkWord, false}
	}
	for _, s := range allSigns {
		cases[s] = answer{api.TkSign, false}
	}
	for s, want := range cases {
		got := answer{Kind(s), Plain(s)}
		if got != want {
			t.Errorf("Kind and Plain of %q = %v; expected %v", s, got, want)
		}
		if IsName(s) != (want.kind == api.TkName) || IsCon(s) != (want.kind == api.TkCon) || IsVar(s) != (want.kind == api.TkVar) || IsWord(s) != (want.kind == api.TkWord) {
			t.Errorf("IsName, IsCon, IsVar, IsWord of %q = %v, %v, %v, %v", s, IsName(s), IsCon(s), IsVar(s), IsWord(s))
		}
	}
}

// P1.4: integers.
func TestIntegers(t *testing.T) {
	for text, want := range map[string]int{"0": 0, "1": 1, "~1": -1, "10": 10, "~120": -120, longInt: math.MaxInt, leastInt: math.MinInt} {
		if n, e := Number(text); n != want || e != api.OK {
			t.Errorf("Number(%q) = %d, %v", text, n, e)
		}
		if s := Digits(want); s != text {
			t.Errorf("Digits(%d) = %q", want, s)
		}
	}
	for _, text := range []string{"", "~", "-1", "+1", "~-1", "~+1", "~~1", "00", "01", "~0", "~01", " 1", "1 ", "1a", "1_0", "0x1", "1.0", "1e3", "١",
		"9223372036854775808", "~9223372036854775809", strings.Repeat("1", 100000), "1\x00", "x"} {
		if n, e := Number(text); n != 0 || e != api.ErrDigit {
			t.Errorf("Number(%.30q) = %d, %v", text, n, e)
		}
	}
}

// P1.5: places.
func TestPlaces(t *testing.T) {
	type where struct{ line, column int }
	for text, want := range map[string][]where{
		"":          {{1, 1}},
		"ab\nc":     {{1, 1}, {1, 2}, {1, 3}, {2, 1}, {2, 2}},
		"\n\n":      {{1, 1}, {2, 1}, {3, 1}},
		"\r\né\x00": {{1, 1}, {1, 2}, {2, 1}, {2, 2}, {2, 3}, {2, 4}},
	} {
		for at, w := range want {
			if line, column, e := Line(text, at); (where{line, column}) != w || e != api.OK {
				t.Errorf("Line(%q, %d) = %d, %d, %v; expected %v", text, at, line, column, e, w)
			}
		}
		for line := -1; line < 5; line++ {
			for column := -1; column < 6; column++ {
				wanted, e := slices.Index(want, where{line, column}), api.OK
				if wanted < 0 {
					wanted, e = 0, api.ErrArg
				}
				if at, got := At(text, line, column); at != wanted || got != e {
					t.Errorf("At(%q, %d, %d) = %d, %v; expected %d", text, line, column, at, got, wanted)
				}
			}
		}
		for _, at := range []int{-1, math.MinInt, len(text) + 1, math.MaxInt} {
			if line, column, e := Line(text, at); line != 0 || column != 0 || e != api.ErrArg {
				t.Errorf("Line(%q, %d) = %d, %d, %v", text, at, line, column, e)
			}
		}
		for _, far := range []int{math.MinInt, math.MaxInt} {
			_, e := At(text, far, 1)
			_, f := At(text, 1, far)
			_, g := At(text, far, far)
			if e != api.ErrArg || f != api.ErrArg || g != api.ErrArg {
				t.Errorf("At(%q) with %d = %v, %v, %v", text, far, e, f, g)
			}
		}
	}
	far := strings.Repeat("a\n", api.MaxLong)
	if line, column, e := Line(far, len(far)); line != api.MaxLong+1 || column != 1 || e != api.OK {
		t.Errorf("Line at the end of a text of many lines = %d, %d, %v", line, column, e)
	}
	if at, e := At(far, api.MaxLong+1, 1); at != len(far) || e != api.OK {
		t.Errorf("At of the last of many lines = %d, %v", at, e)
	}
}

// P1.6: Strip.
func TestStrip(t *testing.T) {
	for text, want := range map[string]string{
		"":                     "",
		"a(*\n*)b":             "a  \n  b",
		"(*\t\r\x00é!*)\t\rx":  "          \t\rx",
		"a (*(*\n\n*)*) b(**)": "a     \n\n     b    ",
		"( *) f * ( )":         "( *) f * ( )",
		"(*)*)(***)":           "          ",
		deepest + deepestIn:    strings.Repeat(" ", 4*api.MaxDeep),
	} {
		if s, at, e := Strip(text); s != want || at != 0 || e != api.OK {
			t.Errorf("Strip(%q) = %q, %d, %v; expected %q", text, s, at, e, want)
		}
	}
}
