// Package lex splits a text into tokens, and converts tokens back to a text. See shared/doc/01-lex.md.
package lex

import (
	"strconv"
	"strings"

	"restitch/api"
)

// Scan returns the tokens of a source text, or the first index at which it is wrong.
func Scan(text string) ([]api.Token, int, api.Errno) {
	return newScanner(text).all(api.MaxText)
}

// Long is Scan for the longer texts that the later layers write.
func Long(text string) ([]api.Token, int, api.Errno) {
	return newScanner(text).all(api.MaxLong)
}

// Strip returns a text with spaces in place of its comments.
func Strip(text string) (string, int, api.Errno) {
	s := newScanner(text)
	if _, at, e := s.all(api.MaxText); e != api.OK {
		return "", at, e
	}
	bare := []byte(text)
	for _, c := range s.comments {
		blank(bare[c.from:c.to])
	}
	return string(bare), 0, api.OK
}

// blank keeps line feeds, so that lines and columns of tokens stay the same.
func blank(comment []byte) {
	for i, c := range comment {
		if c != '\n' {
			comment[i] = ' '
		}
	}
}

// Join returns the texts of valid tokens, with a space between two.
func Join(l []api.Token) string {
	s := newScanner("")
	var joined strings.Builder
	for i, t := range l {
		if !s.valid(t) {
			return ""
		}
		if i > 0 {
			joined.WriteByte(' ')
		}
		joined.WriteString(t.Text)
	}
	return joined.String()
}

// Check reports whether a token is valid.
func Check(t api.Token) api.Errno {
	if newScanner("").valid(t) {
		return api.OK
	}
	return api.ErrToken
}

// Same reports whether two lists have equal tokens, wherever these stand.
func Same(a, b []api.Token) bool {
	if len(a) != len(b) {
		return false
	}
	for i := range a {
		if !alike(a[i], b[i]) {
			return false
		}
	}
	return true
}

func alike(a, b api.Token) bool {
	return a.Kind == b.Kind && a.Num == b.Num && a.Text == b.Text
}

// Kind returns the kind of the token that s as a whole is, 0 if it is none.
func Kind(s string) int {
	t, _ := newScanner("").whole(s)
	return t.Kind
}

// IsName reports whether s is a name, and no word.
func IsName(s string) bool { return Kind(s) == api.TkName }

// IsCon reports whether s is a constructor name.
func IsCon(s string) bool { return Kind(s) == api.TkCon }

// IsVar reports whether s is a type variable.
func IsVar(s string) bool { return Kind(s) == api.TkVar }

// IsWord reports whether s is one of the words of the language.
func IsWord(s string) bool { return Kind(s) == api.TkWord }

// Plain reports whether s is a name, constructor name or type variable without a ' behind its first byte.
func Plain(s string) bool {
	switch Kind(s) {
	case api.TkName, api.TkCon:
		return !strings.Contains(s, "'")
	case api.TkVar:
		return true
	}
	return false
}

// Number returns the integer that is written as the text.
func Number(text string) (int, api.Errno) {
	digits, negative := strings.CutPrefix(text, "~")
	if negative {
		digits = "-" + digits
	}
	n, err := strconv.Atoi(digits)
	// Atoi takes more than one writing of an integer; just one of them is ours.
	if err != nil || Digits(n) != text {
		return 0, api.ErrDigit
	}
	return n, api.OK
}

// Digits returns how an integer is written.
func Digits(n int) string {
	digits, negative := strings.CutPrefix(strconv.Itoa(n), "-")
	if negative {
		return "~" + digits
	}
	return digits
}

// Line returns the line and the column of an index of a text.
func Line(text string, at int) (line, column int, e api.Errno) {
	if at < 0 || at > len(text) {
		return 0, 0, api.ErrArg
	}
	before := text[:at]
	line = strings.Count(before, "\n") + 1
	// LastIndex is -1 in the first line, whose columns begin at 1 all the same.
	column = at - strings.LastIndex(before, "\n")
	return line, column, api.OK
}

// At returns the index that has a line and a column.
func At(text string, line, column int) (int, api.Errno) {
	if line < 1 || column < 1 {
		return 0, api.ErrArg
	}
	start := 0
	for ; line > 1; line-- {
		length := strings.IndexByte(text[start:], '\n')
		if length < 0 {
			return 0, api.ErrArg
		}
		start += length + 1
	}
	length := strings.IndexByte(text[start:], '\n')
	if length < 0 {
		length = len(text) - start
	}
	if column-1 > length {
		return 0, api.ErrArg
	}
	return start + column - 1, api.OK
}
