package syntax

import (
	"slices"
	"strings"
	"testing"

	"restitch/api"
	"restitch/lex"
)

// sort is a sort of trees, with what reads, writes and makes it.
type sort[T any] struct {
	name  string
	parse func(string) (T, int, api.Errno)
	print func(T) (string, api.Errno)
	check func(T) api.Errno
	make  func(maker, int) T
	loose func(loose, T) []string
}

func programs() sort[api.Program] {
	return sort[api.Program]{"program", Parse, Print, Check, maker.program, loose.program}
}

func exprs() sort[api.Expr] {
	return sort[api.Expr]{"expr", ParseExpr, PrintExpr, CheckExpr, maker.expr, loose.expr}
}

func types() sort[api.Type] {
	return sort[api.Type]{"type", ParseType, PrintType, CheckType, maker.typ, loose.typ}
}

func pats() sort[api.Pat] {
	return sort[api.Pat]{"pat", ParsePat, PrintPat, CheckPat, maker.pat, loose.pat}
}

// forTrees looks at random trees that are not too great.
func forTrees[T any](t *testing.T, s sort[T], look func(t *testing.T, s sort[T], m maker, tree T)) {
	t.Helper()
	m := newMaker(uint64(len(s.name)))
	for i := range 2000 {
		tree := s.make(m, i%4)
		if s.check(tree) == api.OK {
			look(t, s, m, tree)
		}
	}
}

// eachConstruct yields each way to make an expression of others, with the number of these.
func eachConstruct(yield func(int, func(l ...api.Expr) api.Expr) bool) {
	pats := []api.Pat{match("Cons", bound("y"), wild()), match(",", wild(), bound("y"))}
	list := []func(l ...api.Expr) api.Expr{
		func(l ...api.Expr) api.Expr { return con("A", l...) },
		func(l ...api.Expr) api.Expr { return fn("x", l[0]) },
		func(l ...api.Expr) api.Expr { return con("A", l...) },
		func(l ...api.Expr) api.Expr { return con(",", l...) },
		func(l ...api.Expr) api.Expr { return app(l[0], l[1]) },
		func(l ...api.Expr) api.Expr { return let("x", l[0], l[1]) },
		func(l ...api.Expr) api.Expr { return rec("f", "x", l[0], l[1]) },
		func(l ...api.Expr) api.Expr { return cases(pats[:1], l...) },
		func(l ...api.Expr) api.Expr { return cases(pats, l...) },
		func(l ...api.Expr) api.Expr { return choice(l[0], l[1], l[2]) },
	}
	for i, f := range list {
		if !yield([]int{1, 1, 2, 2, 2, 2, 2, 2, 3, 3}[i], f) {
			return
		}
	}
	for _, sign := range strings.Fields("+ - * / % < =") {
		if !yield(2, func(l ...api.Expr) api.Expr { return op(sign, l[0], l[1]) }) {
			return
		}
	}
}

// around yields each expression that has one of some expressions as the only one of its Args that is not the variable z.
func around(inner []api.Expr) (result []api.Expr) {
	for count, make := range eachConstruct {
		for i := range count {
			for _, e := range inner {
				args := times(count, ref("z"))
				args[i] = e
				result = append(result, make(args...))
			}
		}
	}
	return result
}

// smallExprs are all ways in which three expressions may stand within each other.
func smallExprs() []api.Expr {
	leaves := []api.Expr{num(0), num(-1), ref("x"), con("Nil")}
	middle := slices.Concat(around(leaves), leaves)
	return slices.Concat(around(middle), middle)
}

// checkBack is P2.2 for a tree.
func checkBack[T any](t *testing.T, s sort[T], tree T) {
	t.Helper()
	text, e := s.print(tree)
	if e != api.OK {
		t.Fatalf("printing the %s %+v: %v", s.name, tree, e)
	}
	back, at, e := s.parse(text)
	if len(text) <= api.MaxText && (e != api.OK || at != 0 || !same(back, tree)) {
		t.Fatalf("the %s %+v is printed as %q, and this read as %+v, %d, %v", s.name, tree, text, back, at, e)
	}
}

// P2.2: what is printed is read as what it was.
func TestBack(t *testing.T) {
	look := func(t *testing.T, _ sort[api.Program], _ maker, p api.Program) { checkBack(t, programs(), p) }
	forTrees(t, programs(), look)
	forTrees(t, exprs(), func(t *testing.T, s sort[api.Expr], _ maker, e api.Expr) { checkBack(t, s, e) })
	forTrees(t, types(), func(t *testing.T, s sort[api.Type], _ maker, x api.Type) { checkBack(t, s, x) })
	forTrees(t, pats(), func(t *testing.T, s sort[api.Pat], _ maker, p api.Pat) { checkBack(t, s, p) })
	for _, e := range smallExprs() {
		checkBack(t, exprs(), e)
	}
}

// checkRead is P2.3 for a text of a tree, which has more parentheses than it needs.
func checkRead[T any](t *testing.T, s sort[T], m maker, tree T) {
	t.Helper()
	text := m.spaced(s.loose(loose{m}, tree))
	if len(text) > api.MaxText {
		return
	}
	got, at, e := s.parse(text)
	if e != api.OK || at != 0 || !same(got, tree) {
		t.Fatalf("%q is read as the %s %+v, %d, %v; expected %+v", text, s.name, got, at, e, tree)
	}
	printed, e := s.print(got)
	again, _, f := s.parse(printed)
	if e != api.OK || f != api.OK || !same(again, tree) {
		t.Fatalf("%q is printed as %q, and this read as %+v", text, printed, again)
	}
	if once, e := s.print(again); once != printed || e != api.OK {
		t.Fatalf("%q is printed as %q, and this as %q", text, printed, once)
	}
	if l, _, e := lex.Scan(printed); lex.Join(l) != printed || e != api.OK {
		t.Fatalf("%q is not what lex.Join returns", printed)
	}
}

// P2.3: a text, however it is written, is printed as a text of the same tree.
func TestReadPrintRead(t *testing.T) {
	forTrees(t, programs(), checkRead)
	forTrees(t, exprs(), checkRead)
	forTrees(t, types(), checkRead)
	forTrees(t, pats(), checkRead)
	m := newMaker(3)
	for _, e := range around(around([]api.Expr{ref("x"), num(-1)})) {
		checkRead(t, exprs(), m, e)
	}
}

// eachWithout yields the text of tokens without each pair of its parentheses.
func eachWithout(tokens []api.Token, yield func(string) bool) {
	var open []int
	for i, x := range tokens {
		switch x.Text {
		case "(":
			open = append(open, i)
		case ")":
			from := open[len(open)-1]
			open = open[:len(open)-1]
			if !yield(lex.Join(slices.Concat(tokens[:from], tokens[from+1:i], tokens[i+1:]))) {
				return
			}
		}
	}
}

// checkFewest is P2.6 for a tree; it returns how many pairs of parentheses its text has.
func checkFewest[T any](t *testing.T, s sort[T], tree T) int {
	t.Helper()
	text, _ := s.print(tree)
	tokens, _, _ := lex.Long(text)
	pairs := 0
	eachWithout(tokens, func(bare string) bool {
		pairs++
		if got, _, e := s.parse(bare); e == api.OK && same(got, tree) {
			t.Fatalf("%q is the same %s as %q", bare, s.name, text)
		}
		return true
	})
	return pairs
}

// P2.6: no pair of parentheses may be left out.
func TestFewest(t *testing.T) {
	pairs := 0
	forTrees(t, programs(), func(t *testing.T, s sort[api.Program], _ maker, p api.Program) { pairs += checkFewest(t, s, p) })
	forTrees(t, exprs(), func(t *testing.T, s sort[api.Expr], _ maker, e api.Expr) { pairs += checkFewest(t, s, e) })
	forTrees(t, types(), func(t *testing.T, s sort[api.Type], _ maker, x api.Type) { pairs += checkFewest(t, s, x) })
	forTrees(t, pats(), func(t *testing.T, s sort[api.Pat], _ maker, p api.Pat) { pairs += checkFewest(t, s, p) })
	for _, e := range smallExprs() {
		pairs += checkFewest(t, exprs(), e)
	}
	if pairs < 10000 {
		t.Errorf("just %d pairs of parentheses", pairs)
	}
}

// P2.5: a text of declarations after another one is read as the declarations of both.
func TestParts(t *testing.T) {
	var last api.Program
	lastText := ""
	forTrees(t, programs(), func(t *testing.T, s sort[api.Program], m maker, p api.Program) {
		text := m.spaced(loose{m}.program(p))
		both := program(slices.Concat(last.Decls, p.Decls)...)
		if len(lastText)+len(text) < api.MaxText && Check(both) == api.OK {
			if got, at, e := Parse(lastText + "\n" + text); e != api.OK || at != 0 || !same(got, both) {
				t.Fatalf("%q and %q are read as %+v, %d, %v", lastText, text, got, at, e)
			}
			if _, at, e := Parse(lastText + "\nval " + text); e != api.ErrSyntax || at < len(lastText)+5 {
				t.Fatalf("%q and then val %q: wrong at %d, %v", lastText, text, at, e)
			}
		}
		last, lastText = p, text
	})
}

// P1: a result shares no memory with an argument, nor two lists of it with each other.
func TestNewMemory(t *testing.T) {
	shared := con("A", num(1), num(2))
	shared.Args = append(make([]api.Expr, 0, 9), shared.Args...)
	list := []api.Pat{match("B", wild())}
	p := program(val("x", con(",", shared, shared)), val("y", cases(list, shared, cases(list, shared, shared))))
	want := "( A 1 2 , A 1 2 )"
	got, e := At(p, api.Blame{})
	if e != api.OK {
		t.Fatal(e)
	}
	got.Args[0].Args[0] = num(7)
	got.Args[0].Args = append(got.Args[0].Args, num(8))
	if text, _ := PrintExpr(p.Decls[0].Body); text != want {
		t.Errorf("the program is changed by its result to %q", text)
	}
	if text, _ := PrintExpr(got); text != "( A 7 2 8 , A 1 2 )" {
		t.Errorf("the result is changed by a part of it to %q", text)
	}
	got, _ = At(p, api.Blame{Decl: 1})
	got.Pats[0].Args[0] = bound("z")
	got.Args[1].Pats[0] = wild()
	if text, _ := PrintExpr(p.Decls[1].Body); text != "case A 1 2 of B _ => case A 1 2 of B _ => A 1 2 end end" {
		t.Errorf("the program is changed by patterns of its result to %q", text)
	}
	read, _, _ := ParseExpr("(if a then b else c, if d then e else f)")
	read.Args[0].Pats[0].Name = "X"
	read.Args[0].Args = append(read.Args[0].Args[:2], num(1))
	if text, _ := PrintExpr(read); text != "( case a of X => b | False => 1 end , if d then e else f )" {
		t.Errorf("what was read is changed by a part of it to %q", text)
	}
}

// P1, P2.1: any bytes are read without a panic, and what is no list of tokens has the error of lex.Scan.
func TestAnyBytes(t *testing.T) {
	m := newMaker(11)
	for range 20000 {
		text := make([]byte, m.IntN(12))
		for i := range text {
			text[i] = byte(m.IntN(256))
			if m.IntN(9) > 0 {
				text[i] = "(*),;:|=<+-/%_xA'1~ \n"[m.IntN(21)]
			}
		}
		_, wantAt, want := lex.Scan(string(text))
		for _, s := range starts {
			at, e := s.parse(string(text))
			if want != api.OK && (at != wantAt || e != want) || want == api.OK && e != api.OK && e != api.ErrSyntax {
				t.Fatalf("%q as a text of %s = %d, %v; expected %d, %v", text, s.name, at, e, wantAt, want)
			}
		}
	}
}
