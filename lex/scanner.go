package lex

import (
	"strings"

	"restitch/api"
)

// place is an index of a text.
type place struct {
	text string
	at   int
}

func (p *place) done() bool { return p.at >= len(p.text) }

// peek returns the byte that lies n bytes ahead; behind the end this is 0, which begins no token.
func (p *place) peek(n int) byte {
	if p.at+n >= len(p.text) {
		return 0
	}
	return p.text[p.at+n]
}

func (p *place) begins(s string) bool { return strings.HasPrefix(p.text[p.at:], s) }

// pass goes on to the first byte that is not in a set.
func (p *place) pass(in func(byte) bool) {
	for !p.done() && in(p.text[p.at]) {
		p.at++
	}
}

// span is the bytes of a comment.
type span struct{ from, to int }

// longestWord is how many bytes a word has at most.
const longestWord = 6

// scanner reads the tokens of a text from left to right.
type scanner struct {
	place
	words    [longestWord + 1]map[string]bool // by their length
	comments []span
}

// wrong is what a scanner panics with where a text is wrong.
type wrong struct {
	at int
	e  api.Errno
}

func newScanner(text string) *scanner {
	return &scanner{place: place{text: text}}
}

// all returns the tokens of a text of at most as many bytes as most says.
func (s *scanner) all(most int) (list []api.Token, at int, e api.Errno) {
	defer func() {
		if w, ok := recover().(wrong); ok {
			list, at, e = nil, w.at, w.e
		}
	}()
	if len(s.text) > most {
		return nil, 0, api.ErrLong
	}
	for t := range s.tokens {
		list = append(list, t)
	}
	return list, 0, api.OK
}

// whole returns the token that text as a whole is.
func (s *scanner) whole(text string) (t api.Token, ok bool) {
	defer func() {
		if recover() != nil {
			t, ok = api.Token{}, false
		}
	}()
	s.place = place{text: text}
	first := s.next()
	if !s.done() {
		return api.Token{}, false
	}
	return first, true
}

func (s *scanner) valid(t api.Token) bool {
	w, ok := s.whole(t.Text)
	return ok && t.At >= 0 && alike(t, w)
}

// tokens yields the tokens that are left.
func (s *scanner) tokens(yield func(api.Token) bool) {
	for s.skip(); !s.done(); s.skip() {
		if !yield(s.next()) {
			return
		}
	}
}

// skip passes over spaces and comments.
func (s *scanner) skip() {
	s.pass(isSpace)
	for s.begins("(*") {
		s.comment()
		s.pass(isSpace)
	}
}

// comment passes over a comment and those within it.
func (s *scanner) comment() {
	start := s.at
	open := 0
	for open > 0 || s.at == start {
		switch {
		case s.done():
			panic(wrong{start, api.ErrComment})
		case s.begins("(*") && open == api.MaxDeep:
			panic(wrong{s.at, api.ErrDeep})
		case s.begins("(*"):
			open++
			s.at += 2
		case s.begins("*)"):
			open--
			s.at += 2
		default:
			s.at++
		}
	}
	s.comments = append(s.comments, span{start, s.at})
}

// next reads the token that begins at the place.
func (s *scanner) next() api.Token {
	switch c := s.peek(0); {
	case isSmall(c):
		return s.name(api.TkName)
	case isCapital(c):
		return s.name(api.TkCon)
	case c == '\'' && isSmall(s.peek(1)):
		return s.variable()
	case c == '~' || isDigit(c):
		return s.number()
	case (c == '=' || c == '-') && s.peek(1) == '>':
		return s.sign(2)
	case strings.IndexByte("(),;:|=<+-*/%_", c) >= 0:
		return s.sign(1)
	}
	panic(wrong{s.at, api.ErrByte})
}

// name reads a name of a kind, or a word.
func (s *scanner) name(kind int) api.Token {
	start := s.at
	s.pass(isPart)
	if s.peek(0) == '\'' && isDigit(s.peek(1)) {
		s.at++
		s.pass(isDigit)
	}
	t := s.named(kind, start)
	if s.isWord(t.Text) {
		t.Kind = api.TkWord
	}
	return t
}

func (s *scanner) variable() api.Token {
	start := s.at
	s.at++
	s.pass(isPart)
	return s.named(api.TkVar, start)
}

// named returns the token from start to the place, which a name must not be too long for.
func (s *scanner) named(kind, start int) api.Token {
	if s.at-start > api.MaxName {
		panic(wrong{start, api.ErrLong})
	}
	return api.Token{Kind: kind, Text: s.text[start:s.at], At: start}
}

// number reads an integer; what stands close behind it is wrong if it looks like a part of it.
func (s *scanner) number() api.Token {
	start := s.at
	if s.peek(0) == '~' {
		s.at++
	}
	s.pass(isDigit)
	text := s.text[start:s.at]
	n, e := Number(text)
	if c := s.peek(0); e != api.OK || isPart(c) || c == '\'' {
		panic(wrong{start, api.ErrDigit})
	}
	return api.Token{Kind: api.TkNum, Num: n, Text: text, At: start}
}

func (s *scanner) sign(length int) api.Token {
	start := s.at
	s.at += length
	return api.Token{Kind: api.TkSign, Text: s.text[start:s.at], At: start}
}

// isWord makes just the map that it needs, because most calls look at a single short text.
func (s *scanner) isWord(text string) bool {
	n := len(text)
	if n > longestWord {
		return false
	}
	if s.words[n] == nil {
		s.words[n] = wordsOf(n)
	}
	return s.words[n][text]
}

// wordsOf returns the words that have a length.
func wordsOf(length int) map[string]bool {
	switch length {
	case 2:
		return map[string]bool{"fn": true, "if": true, "in": true, "of": true}
	case 3:
		return map[string]bool{"and": true, "end": true, "fun": true, "let": true, "val": true}
	case 4:
		return map[string]bool{"case": true, "data": true, "else": true, "then": true}
	case 5:
		return map[string]bool{"input": true}
	case 6:
		return map[string]bool{"output": true}
	}
	return nil
}

func isSpace(c byte) bool { return c == 9 || c == 10 || c == 13 || c == 32 }

func isSmall(c byte) bool { return c >= 'a' && c <= 'z' }

func isCapital(c byte) bool { return c >= 'A' && c <= 'Z' }

func isDigit(c byte) bool { return c >= '0' && c <= '9' }

// isPart reports whether a byte may stand in a name behind the first one.
func isPart(c byte) bool { return isSmall(c) || isCapital(c) || isDigit(c) || c == '_' }
