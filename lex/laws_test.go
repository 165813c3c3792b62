package lex

import (
	"math/rand/v2"
	"regexp"
	"slices"
	"strings"
	"testing"

	"restitch/api"
)

// pieces are what texts are put together from: tokens, their beginnings and ends, and what is close to them.
var pieces = strings.Fields(`( ) , ; : | = => -> < + - * / % _ > ~ ' ! (* *) (* *) (**) (*) *)) x' 'a '1 'A x'1 x'a A'2 B
	fn fun in input 0 1 ~1 ~0 01 42 9223372036854775807 9223372036854775808 ~9223372036854775808 ~9223372036854775809
	aaaaaaaaaaaaaaaaaaaaaa bbbbbbbbbbbbbbbbbbbbbbbb 'cccccccccccccccccccccc é`)

// calm are the pieces that are tokens, so that longer texts are right now and then.
var calm = strings.Fields(`( ) , => -> - * _ x x'1 'a A A'2 fun in input 0 1 ~1 42 (**) (*!(**)*)`)

func randomText(r *rand.Rand) string {
	from, gap := pieces, 3
	if r.IntN(2) == 0 {
		from, gap = calm, 6
	}
	var b strings.Builder
	for range r.IntN(14) {
		b.WriteString(from[r.IntN(len(from))])
		for r.IntN(7) < gap {
			b.WriteByte("   \t\r\n"[r.IntN(6)])
		}
	}
	return b.String()
}

func forTexts(t *testing.T, count int, look func(r *rand.Rand, text string)) {
	t.Helper()
	r := rand.New(rand.NewPCG(1, 2))
	for range count {
		look(r, randomText(r))
	}
}

// forms say of each kind what its tokens are, in the words of the chapter.
var forms = []struct {
	kind int
	form *regexp.Regexp
}{
	{api.TkWord, regexp.MustCompile(`^(and|case|data|else|end|fn|fun|if|in|input|let|of|output|then|val)$`)},
	{api.TkName, regexp.MustCompile(`^[a-z][A-Za-z0-9_]*('[0-9]+)?$`)},
	{api.TkCon, regexp.MustCompile(`^[A-Z][A-Za-z0-9_]*('[0-9]+)?$`)},
	{api.TkVar, regexp.MustCompile(`^'[a-z][A-Za-z0-9_]*$`)},
	{api.TkSign, regexp.MustCompile(`^([(),;:|=<+*/%_-]|=>|->)$`)},
	{api.TkNum, regexp.MustCompile(`^(0|~?[1-9][0-9]*)$`)},
}

var (
	digitsForm = regexp.MustCompile(`^(~[0-9]*|[0-9]+)`)
	digitsNext = regexp.MustCompile(`^[A-Za-z0-9_']`)
	nameForm   = regexp.MustCompile(`^[A-Za-z][A-Za-z0-9_]*('[0-9]+)?`)
	varForm    = regexp.MustCompile(`^'[a-z][A-Za-z0-9_]*`)
	spaceForm  = regexp.MustCompile(`^[\t\n\r ]+`)
)

// longest finds the longest valid token at the beginning of a text by trying all lengths.
func longest(text string) (api.Token, bool) {
	for n := min(len(text), api.MaxName); n > 0; n-- {
		for _, f := range forms {
			if !f.form.MatchString(text[:n]) {
				continue
			}
			number, e := 0, api.OK
			if f.kind == api.TkNum {
				number, e = Number(text[:n])
			}
			if e == api.OK {
				return api.Token{Kind: f.kind, Num: number, Text: text[:n]}, true
			}
		}
	}
	return api.Token{}, false
}

// commentEnd returns the length of the comment at the beginning of a text, or where it is wrong.
func commentEnd(text string, outside int) (length, at int, e api.Errno) {
	if outside == api.MaxDeep {
		return 0, 0, api.ErrDeep
	}
	for i := 2; i < len(text); {
		switch {
		case strings.HasPrefix(text[i:], "*)"):
			return i + 2, 0, api.OK
		case strings.HasPrefix(text[i:], "(*"):
			n, at, e := commentEnd(text[i:], outside+1)
			if e == api.ErrComment {
				return 0, 0, e
			}
			if e != api.OK {
				return 0, i + at, e
			}
			i += n
		default:
			i++
		}
	}
	return 0, 0, api.ErrComment
}

// wrongAt returns the error of a text at its beginning, where no space and no comment is.
func wrongAt(text string) api.Errno {
	if n := len(digitsForm.FindString(text)); n > 0 {
		if _, e := Number(text[:n]); e != api.OK || digitsNext.MatchString(text[n:]) {
			return api.ErrDigit
		}
	}
	if len(nameForm.FindString(text)) > api.MaxName || len(varForm.FindString(text)) > api.MaxName {
		return api.ErrLong
	}
	return api.OK
}

// slowScan is Scan as the chapter defines it, without a scanner.
func slowScan(text string) (l []api.Token, at int, e api.Errno) {
	for i := 0; i < len(text); {
		if n := len(spaceForm.FindString(text[i:])); n > 0 {
			i += n
			continue
		}
		if strings.HasPrefix(text[i:], "(*") {
			n, at, e := commentEnd(text[i:], 0)
			if e != api.OK {
				return nil, i + at, e
			}
			i += n
			continue
		}
		if e := wrongAt(text[i:]); e != api.OK {
			return nil, i, e
		}
		t, ok := longest(text[i:])
		if !ok {
			return nil, i, api.ErrByte
		}
		t.At = i
		l = append(l, t)
		i += len(t.Text)
	}
	return l, 0, api.OK
}

// P1.1: Scan and Long are what the chapter defines.
func TestScanDefinition(t *testing.T) {
	seen := map[api.Errno]int{}
	forTexts(t, 30000, func(_ *rand.Rand, text string) {
		want, wantAt, wantErr := slowScan(text)
		seen[wantErr]++
		for _, scan := range []func(string) ([]api.Token, int, api.Errno){Scan, Long} {
			l, at, e := scan(text)
			if !slices.Equal(l, want) || at != wantAt || e != wantErr {
				t.Fatalf("tokens of %q = %v, %d, %v; expected %v, %d, %v", text, l, at, e, want, wantAt, wantErr)
			}
		}
		if _, at, e := Strip(text); at != wantAt || e != wantErr {
			t.Fatalf("Strip(%q) = %d, %v; expected %d, %v", text, at, e, wantAt, wantErr)
		}
	})
	for _, e := range []api.Errno{api.OK, api.ErrLong, api.ErrByte, api.ErrComment, api.ErrDigit} {
		if seen[e] < 100 {
			t.Errorf("just %d texts with the error %v", seen[e], e)
		}
	}
}

// P1.2, P1.3: a token of a text is valid, and a text of one token is of its kind.
func TestKindDefinition(t *testing.T) {
	forTexts(t, 30000, func(_ *rand.Rand, text string) {
		if len(text) > 0 && len(text) <= api.MaxName {
			want, _ := longest(text)
			if want.Text != text || wrongAt(text) != api.OK {
				want = api.Token{}
			}
			if k := Kind(text); k != want.Kind {
				t.Fatalf("Kind(%q) = %d; expected %d", text, k, want.Kind)
			}
		}
		l, _, _ := Scan(text)
		for _, x := range l {
			if Check(x) != api.OK || Kind(x.Text) != x.Kind {
				t.Fatalf("the token %+v of %q is not valid", x, text)
			}
		}
	})
}

// P1.7: tokens that are joined are scanned again.
func TestBack(t *testing.T) {
	r := rand.New(rand.NewPCG(3, 4))
	tokens := []api.Token{}
	for _, text := range append(slices.Concat(pieces, calm, allWords, allSigns), longName, longInt, leastInt) {
		if k := Kind(text); k != 0 {
			n, _ := Number(text)
			tokens = append(tokens, rawToken(k, n, text, r.IntN(99)))
		}
	}
	for _, a := range tokens {
		for _, b := range tokens {
			l := []api.Token{a, b, a}
			if m, at, e := Scan(Join(l)); !Same(l, m) || at != 0 || e != api.OK {
				t.Fatalf("Scan(%q) = %v, %d, %v", Join(l), m, at, e)
			}
		}
	}
	forTexts(t, 10000, func(_ *rand.Rand, text string) {
		l, _, e := Scan(text)
		if e != api.OK {
			return
		}
		joined := Join(l)
		m, _, e := Scan(joined)
		if !Same(l, m) || e != api.OK || Join(m) != joined {
			t.Fatalf("%q is joined to %q, and this again to %q", text, joined, Join(m))
		}
	})
}

// P1.8: the tokens of two texts with a line feed in between.
func TestParts(t *testing.T) {
	forTexts(t, 20000, func(r *rand.Rand, a string) {
		b := randomText(r)
		l, _, e := Scan(a)
		m, _, f := Scan(b)
		if e != api.OK || f != api.OK {
			return
		}
		for _, x := range m {
			x.At += len(a) + 1
			l = append(l, x)
		}
		if both, at, e := Scan(a + "\n" + b); !slices.Equal(both, l) || at != 0 || e != api.OK {
			t.Fatalf("tokens of %q and %q = %v, %d, %v", a, b, both, at, e)
		}
	})
}

// P1.9: there is nothing in a text but tokens, spaces and comments.
func TestNothingElse(t *testing.T) {
	forTexts(t, 20000, func(_ *rand.Rand, text string) {
		l, _, e := Scan(text)
		if e != api.OK {
			return
		}
		bare, _, e := Strip(text)
		m, _, f := Scan(bare)
		if e != api.OK || f != api.OK || !slices.Equal(l, m) || len(bare) != len(text) || strings.Count(bare, "\n") != strings.Count(text, "\n") {
			t.Fatalf("Strip(%q) = %q, %v, %v", text, bare, e, f)
		}
		end := 0
		for _, x := range append(l, api.Token{At: len(text)}) {
			if x.At < end || strings.Trim(bare[end:x.At], "\t\n\r ") != "" || !strings.HasPrefix(text[x.At:], x.Text) {
				t.Fatalf("before the token %v of %q is %q", x, text, bare[end:max(end, x.At)])
			}
			end = x.At + len(x.Text)
		}
	})
}

// P1.10: places rise.
func TestPlacesRise(t *testing.T) {
	forTexts(t, 5000, func(_ *rand.Rand, text string) {
		lastLine, lastColumn := 1, 0
		for i := range len(text) + 1 {
			line, column, e := Line(text, i)
			if e != api.OK || line < lastLine || line == lastLine && column <= lastColumn {
				t.Fatalf("Line(%q, %d) = %d, %d, %v after %d, %d", text, i, line, column, e, lastLine, lastColumn)
			}
			if at, e := At(text, line, column); at != i || e != api.OK {
				t.Fatalf("At(%q, %d, %d) = %d, %v; expected %d", text, line, column, at, e, i)
			}
			lastLine, lastColumn = line, column
		}
	})
}

// outermost returns where the last comment begins that begins before or at an index, not within another one.
func outermost(text string, at int) int {
	begin := -1
	for i := 0; i <= at; {
		if !strings.HasPrefix(text[i:], "(*") {
			i++
			continue
		}
		begin = i
		n, _, e := commentEnd(text[i:], 0)
		if e != api.OK {
			break
		}
		i += n
	}
	return begin
}

// P1.11: the text before the first wrong index is right.
func TestBeforeWrong(t *testing.T) {
	look := func(_ *rand.Rand, text string) {
		_, at, e := Scan(text)
		if e == api.OK {
			return
		}
		if e == api.ErrComment || e == api.ErrDeep {
			at = outermost(text, at)
		}
		if _, _, f := Scan(text[:at]); f != api.OK {
			t.Fatalf("%q is wrong at %d (%v), but the text before has the error %v", text, at, e, f)
		}
	}
	forTexts(t, 20000, look)
	forTexts(t, 500, func(_ *rand.Rand, text string) { look(nil, text+deepest+"(*"+text+deepestIn) })
}

// P1: no function panics, or changes its argument, whatever the arguments are.
func TestAnyBytes(t *testing.T) {
	r := rand.New(rand.NewPCG(5, 6))
	for range 20000 {
		b := make([]byte, r.IntN(12))
		for i := range b {
			b[i] = byte(r.IntN(256))
			if r.IntN(3) > 0 {
				b[i] = "(*)~'09azAZ_=->\n "[r.IntN(17)]
			}
		}
		text := string(b)
		want, wantAt, wantErr := slowScan(text)
		l, at, e := Scan(text)
		if !slices.Equal(l, want) || at != wantAt || e != wantErr {
			t.Fatalf("Scan(%q) = %v, %d, %v; expected %v, %d, %v", text, l, at, e, want, wantAt, wantErr)
		}
		x := []api.Token{rawToken(r.IntN(9)-1, r.IntN(5)-2, text, r.IntN(5)-2)}
		keep := slices.Clone(x)
		if (Join(x) == text) != (Check(x[0]) == api.OK || text == "") || !slices.Equal(x, keep) {
			t.Fatalf("Join(%+v) = %q, Check = %v", x, Join(x), Check(x[0]))
		}
		Strip(text)
		Line(text, r.IntN(20)-4)
		At(text, r.IntN(6)-2, r.IntN(9)-3)
	}
}
