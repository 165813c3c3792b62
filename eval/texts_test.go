package eval

import (
	"strings"
	"testing"

	"restitch/api"
	"restitch/lex"
)

// P6.2: the texts of values.
func TestText(t *testing.T) {
	for _, c := range []struct {
		v    api.Value
		want string
	}{
		{num(0), "0"},
		{num(-2), "~2"},
		{num(1<<63 - 1), "9223372036854775807"},
		{num(-1 << 63), "~9223372036854775808"},
		{con("Nil"), "Nil"},
		{con("Some", num(-1)), "Some ~1"},
		{con("Cons", num(1), con("Cons", num(-2), con("Nil"))), "Cons 1 (Cons ~2 Nil)"},
		{pair(num(3), con("Cons", num(1), con("Cons", num(-2), con("Nil")))), "(3, Cons 1 (Cons ~2 Nil))"},
		{pair(num(1), pair(num(2), con("A")), con("B", num(3)), con("C")), "(1, (2, A), B 3, C)"},
		{con("A", pair(num(1), num(2)), con("B"), con("B", con("B"))), "A (1, 2) B (B B)"},
		{con("A", pair(con("B", num(1)), pair(num(1), num(2), num(3)))), "A (B 1, (1, 2, 3))"},
		{con("X'1", con("Y_z")), "X'1 Y_z"},
		{api.Value{Con: "Nil", Args: []api.Value{}}, "Nil"},
		{con("A", api.Value{Con: "Nil", Args: []api.Value{}}), "A Nil"},
	} {
		got, e := Text(c.v)
		errs(t, c.want, e, api.OK)
		texts(t, show(c.v), got, c.want)
	}
	for i, v := range badValues() {
		if got, e := Text(v); got != "" || e != api.ErrForm {
			t.Errorf("bad value %d, %s: %q, error %d", i, short(v), got, e)
		}
	}
}

// P6.2: texts of values, also with more parentheses and spaces than Text writes.
func TestReadValue(t *testing.T) {
	for text, want := range map[string]api.Value{
		"0":                                   num(0),
		" (* a *) ~12\n":                      num(-12),
		"9223372036854775807":                 num(1<<63 - 1),
		"~9223372036854775808":                num(-1 << 63),
		"Nil":                                 con("Nil"),
		"(Nil)":                               con("Nil"),
		"((3))":                               num(3),
		"Pair 3":                              con("Pair", num(3)),
		"((Pair (3) Nil))":                    con("Pair", num(3), con("Nil")),
		"Cons 1 Cons 2 Nil":                   con("Cons", num(1), con("Cons"), num(2), con("Nil")),
		"Cons 1 (Cons 2 (Nil))":               con("Cons", num(1), con("Cons", num(2), con("Nil"))),
		"(1,2)":                               pair(num(1), num(2)),
		"((1, 2))":                            pair(num(1), num(2)),
		"(1, (2), 3, ((4)))":                  pair(num(1), num(2), num(3), num(4)),
		"((1, 2), 3)":                         pair(pair(num(1), num(2)), num(3)),
		"(A 1 2, B)":                          pair(con("A", num(1), num(2)), con("B")),
		"A(1,2)B(B(B))":                       con("A", pair(num(1), num(2)), con("B"), con("B", con("B"))),
		"A (* ) *) 1":                         con("A", num(1)),
		"A'1 ((B))":                           con("A'1", con("B")),
		"Int 1":                               con("Int", num(1)),
		"True False":                          con("True", con("False")),
		"C 1 1 1 1 1 1 1 1 1 1 1 1 1 1 1 (1)": con("C", listOf(16, num(1))...),
	} {
		v, at, e := ReadValue(text)
		errs(t, text, e, api.OK)
		if at != 0 || !same(v, want) {
			t.Errorf("ReadValue(%q) = %s, %d, expected %s", text, show(v), at, show(want))
		}
	}
}

func listOf(n int, v api.Value) (l []api.Value) {
	for range n {
		l = append(l, v)
	}
	return l
}

// P6.2: texts at which no value goes on.
func TestReadValueErrors(t *testing.T) {
	for _, c := range []struct {
		text string
		at   int
		e    api.Errno
	}{
		{"", 0, api.ErrForm},
		{"  ", 2, api.ErrForm},
		{" (* *) \n", 8, api.ErrForm},
		{"(3", 2, api.ErrForm},
		{"(3 (* *) ", 9, api.ErrForm},
		{"3 4", 2, api.ErrForm},
		{"3 Nil", 2, api.ErrForm},
		{"3 (4)", 2, api.ErrForm},
		{"(3) 4", 4, api.ErrForm},
		{"(Pair 3) 4", 9, api.ErrForm},
		{"(1, 2) 3", 7, api.ErrForm},
		{"((Pair) 3)", 8, api.ErrForm},
		{"(3 4)", 3, api.ErrForm},
		{"()", 1, api.ErrForm},
		{"(", 1, api.ErrForm},
		{")", 0, api.ErrForm},
		{",", 0, api.ErrForm},
		{"Nil)", 3, api.ErrForm},
		{"Cons 1, 2", 6, api.ErrForm},
		{"1, 2", 1, api.ErrForm},
		{"(1, )", 4, api.ErrForm},
		{"(1, 2", 5, api.ErrForm},
		{"(1, 2, ", 7, api.ErrForm},
		{"(, 1)", 1, api.ErrForm},
		{"(1,, 2)", 3, api.ErrForm},
		{"Cons (1", 7, api.ErrForm},
		{"Cons ()", 6, api.ErrForm},
		{"Cons x", 5, api.ErrForm},
		{"x", 0, api.ErrForm},
		{"'a", 0, api.ErrForm},
		{"fn", 0, api.ErrForm},
		{"Cons end", 5, api.ErrForm},
		{"Cons 1 + 2", 7, api.ErrForm},
		{"- 1", 0, api.ErrForm},
		{"1;", 1, api.ErrForm},
		{"A = B", 2, api.ErrForm},
		{"A _", 2, api.ErrForm},
		{"A | B", 2, api.ErrForm},
		// What is read, but is not valid.
		{"(1, 2, 3, 4, 5)", 0, api.ErrForm},
		{"A (1, 2, 3, 4, 5)", 0, api.ErrForm},
		{"C 1 2 3 4 5 6 7 8 9 10 11 12 13 14 15 16 17", 0, api.ErrForm},
		{"Some (C 1 2 3 4 5 6 7 8 9 10 11 12 13 14 15 16 17)", 0, api.ErrForm},
		// A token at which no value goes on comes first.
		{"(1, 2, 3, 4, 5", 14, api.ErrForm},
		{"C 1 2 3 4 5 6 7 8 9 10 11 12 13 14 15 16 17 x", 44, api.ErrForm},
		// Errors of lex.Scan come before all others.
		{"!", 0, api.ErrByte},
		{"^", 0, api.ErrByte},
		{"Cons ^ 1", 5, api.ErrByte},
		{"1 2 !", 4, api.ErrByte},
		{"x 01", 2, api.ErrDigit},
		{"~0", 0, api.ErrDigit},
		{"9223372036854775808", 0, api.ErrDigit},
		{"A (* 1", 2, api.ErrComment},
		{"A A" + strings.Repeat("a", 24), 2, api.ErrLong},
		{strings.Repeat(" ", 20001), 0, api.ErrLong},
		{strings.Repeat("(*", 101), 200, api.ErrDeep},
	} {
		v, at, e := ReadValue(c.text)
		if at != c.at || e != c.e || !same(v, api.Value{}) {
			t.Errorf("ReadValue(%q) = %s, %d, error %d; expected %d, error %d", c.text, show(v), at, e, c.at, c.e)
		}
	}
}

// P6.2: how many parentheses may be open, and how many values may be read.
func TestReadValueLimits(t *testing.T) {
	within := func(n int, text string) string { return strings.Repeat("(", n) + text + strings.Repeat(")", n) }
	five := strings.Repeat("D ", 5)
	for _, c := range []struct {
		text string
		at   int
		e    api.Errno
	}{
		{within(4000, "1"), 0, api.OK},
		{within(4001, "1"), 4000, api.ErrDeep},
		{" " + within(4001, ""), 4001, api.ErrDeep},
		{within(4000, ""), 4000, api.ErrForm},
		{within(9000, "1"), 4000, api.ErrDeep},
		{"x" + within(9000, "1"), 0, api.ErrForm},
		{within(4001, "1") + "!", 8003, api.ErrByte},
		{"(" + within(3999, "1") + ", " + within(3998, "(2, 3)") + ")", 0, api.OK},
		{"(" + within(3999, "1") + ", " + within(4000, "2") + ")", 1 + 7999 + 2 + 3999, api.ErrDeep},
		// C with 15 integers and one more C, 250 times, has 4000 values; 4001 are not valid.
		{strings.Repeat("C 1 1 1 1 1 1 1 1 1 1 1 1 1 1 1 (", 249) + "C 1 1 1 1 1 1 1 1 1 1 1 1 1 1 1" + strings.Repeat(")", 249), 0, api.OK},
		{strings.Repeat("C 1 1 1 1 1 1 1 1 1 1 1 1 1 1 1 (", 249) + "C 1 1 1 1 1 1 1 1 1 1 1 1 1 1 1 1" + strings.Repeat(")", 249), 0, api.ErrForm},
		{strings.Repeat("C (", 3999) + "D" + strings.Repeat(")", 3999), 0, api.OK},
		{strings.Repeat("C (", 3995) + five + strings.Repeat(")", 3995), 0, api.OK},
		{strings.Repeat("C (", 3996) + five + strings.Repeat(")", 3996), 0, api.ErrForm},
		{strings.Repeat("C (", 4001), 3*4000 + 2, api.ErrDeep},
	} {
		v, at, e := ReadValue(c.text)
		if at != c.at || e != c.e {
			t.Errorf("ReadValue of %q ..: %d, error %d; expected %d, error %d", c.text[:9], at, e, c.at, c.e)
		}
		if c.e != api.OK && !same(v, api.Value{}) || c.e == api.OK && CheckValue(v) != api.OK {
			t.Errorf("ReadValue of %q ..: %s", c.text[:9], short(v))
		}
	}
}

// loose writes a value with parentheses and spaces that Text does not write.
func (d dice) loose(v api.Value, field bool) string {
	if d.IntN(5) == 0 || field && v.Con != "," && len(v.Args) > 0 {
		return d.space() + "(" + d.loose(v, false) + d.space() + ")"
	}
	switch v.Con {
	case "":
		return d.space() + lex.Digits(v.Num)
	case ",":
		text := "("
		for i, a := range v.Args {
			if i > 0 {
				text += d.space() + ","
			}
			text += d.loose(a, false)
		}
		return d.space() + text + d.space() + ")"
	}
	text := d.space() + v.Con
	for _, a := range v.Args {
		text += " " + d.loose(a, true)
	}
	return text
}

func (d dice) space() string { return pick(d, []string{"", "", " ", "\n\t", "(* ( *)", "(*(*)*)*)"}) }

// P6.10: ReadValue of Text is the value; texts that are the same are those of equal values.
func TestBack(t *testing.T) {
	d := newDice(10)
	for range 5000 {
		v, w := d.value(4), d.value(2)
		text, e := Text(v)
		other, f := Text(w)
		if e != api.OK || f != api.OK || (text == other) != Equal(v, w) {
			t.Fatalf("the texts of %s and %s: %q and %q", show(v), show(w), text, other)
		}
		for _, one := range []string{text, d.loose(v, false)} {
			if got, at, e := ReadValue(one); e != api.OK || at != 0 || !same(got, v) {
				t.Fatalf("ReadValue(%q) = %s, %d, error %d; expected %s", one, show(got), at, e, show(v))
			}
		}
	}
	for i, v := range goodValues() {
		text, e := Text(v)
		if e != api.OK {
			t.Errorf("good value %d: error %d", i, e)
		}
		got, at, e := ReadValue(text)
		if len(text) > api.MaxText {
			if e != api.ErrLong || at != 0 {
				t.Errorf("good value %d, which is too long: %d, error %d", i, at, e)
			}
		} else if e != api.OK || at != 0 || !same(got, v) {
			t.Errorf("good value %d, read from its text: %s, %d, error %d", i, short(got), at, e)
		}
	}
}

// P1, P6.2: any bytes are read; what is read is the value of its own text, and nothing but tokens matters.
func TestAnyText(t *testing.T) {
	d := newDice(2)
	count := map[api.Errno]int{}
	words := strings.Fields("( ( ) ) , 1 ~2 A B Nil x fn _ (* *) !")
	for range 50000 {
		text := ""
		for range d.IntN(9) {
			text += pick(d, []string{"", " "}) + pick(d, words)
		}
		v, at, e := ReadValue(text)
		count[e]++
		want, wantAt, wantE := slowRead(text)
		if e != wantE || at != wantAt || !same(v, want) {
			t.Fatalf("ReadValue(%q) = %s, %d, error %d; expected %s, %d, error %d", text, show(v), at, e, show(want), wantAt, wantE)
		}
	}
	if count[api.OK] < 2000 || count[api.ErrForm] < 10000 || count[api.ErrByte] < 1000 {
		t.Errorf("the errors are %v", count)
	}
}

// slowRead finds the value of a text by trying what can follow each token.
func slowRead(text string) (api.Value, int, api.Errno) {
	tokens, at, e := lex.Scan(text)
	if e != api.OK {
		return api.Value{}, at, e
	}
	for n := range tokens {
		if !goesOn(tokens[:n+1]) {
			return api.Value{}, tokens[n].At, api.ErrForm
		}
	}
	v, ok := whole(tokens)
	switch {
	case !ok:
		return api.Value{}, len(text), api.ErrForm
	case CheckValue(v) != api.OK:
		return api.Value{}, 0, api.ErrForm
	}
	return v, 0, api.OK
}

// goesOn reports whether tokens can be completed to a value: by an integer, if one is missing, and parentheses.
func goesOn(tokens []api.Token) bool {
	open := 0
	for _, t := range tokens {
		switch t.Text {
		case "(":
			open++
		case ")":
			open--
		}
	}
	if open < 0 {
		return false
	}
	closed := tokens[:len(tokens):len(tokens)]
	for range open {
		closed = append(closed, api.Token{Kind: api.TkSign, Text: ")"})
	}
	one := append(tokens[:len(tokens):len(tokens)], api.Token{Kind: api.TkNum, Text: "0"})
	_, now := whole(closed)
	_, then := whole(append(one, closed[len(tokens):]...))
	return now || then
}

// whole returns the value that all tokens together are.
func whole(tokens []api.Token) (api.Value, bool) {
	if len(tokens) == 0 {
		return api.Value{}, false
	}
	if first := tokens[0]; first.Kind == api.TkCon {
		v := con(first.Text)
		for rest := tokens[1:]; len(rest) > 0; {
			n := 1
			for open := 0; n <= len(rest); n++ {
				open += strings.Count(rest[n-1].Text, "(") - strings.Count(rest[n-1].Text, ")")
				if open <= 0 {
					break
				}
			}
			if n > len(rest) {
				return api.Value{}, false
			}
			field, ok := whole(rest[:n])
			if !ok {
				return api.Value{}, false
			}
			v.Args = append(v.Args, field)
			rest = rest[n:]
		}
		return v, true
	}
	if tokens[0].Kind == api.TkNum && len(tokens) == 1 {
		return num(tokens[0].Num), true
	}
	if len(tokens) < 3 || tokens[0].Text != "(" || tokens[len(tokens)-1].Text != ")" {
		return api.Value{}, false
	}
	return between(tokens[1 : len(tokens)-1])
}

// between returns the value that tokens between parentheses are.
func between(tokens []api.Token) (api.Value, bool) {
	var list []api.Value
	open, from := 0, 0
	for i := 0; i <= len(tokens); i++ {
		if i == len(tokens) || open == 0 && tokens[i].Text == "," {
			v, ok := whole(tokens[from:i])
			if !ok {
				return api.Value{}, false
			}
			list = append(list, v)
			from = i + 1
			continue
		}
		open += strings.Count(tokens[i].Text, "(") - strings.Count(tokens[i].Text, ")")
		if open < 0 {
			return api.Value{}, false
		}
	}
	if len(list) == 1 {
		return list[0], true
	}
	return pair(list...), true
}
