package syntax

import (
	"strings"
	"testing"

	"restitch/api"
	"restitch/lex"
)

// P2.1: what an expression is read as.
func TestParseExpr(t *testing.T) {
	x, y, one := ref("x"), ref("y"), num(1)
	for _, c := range []struct {
		text string
		want api.Expr
	}{
		{"~5", num(-5)},
		{"~9223372036854775808", num(-9223372036854775808)},
		{"x'1", ref("x'1")},
		{"Nil", con("Nil")},
		{"((x))", x},
		{"f x (g 1) - 2 * 3", op("-", app(app(ref("f"), x), app(ref("g"), one)), op("*", num(2), num(3)))},
		{"Cons 1 Nil", con("Cons", one, con("Nil"))},
		{"(Cons) 1", app(con("Cons"), one)},
		{"(Cons 1) x", app(con("Cons", one), x)},
		{"f Cons 1", app(app(ref("f"), con("Cons")), one)},
		{"1 x", app(one, x)},
		{"(1, x) y", app(con(",", one, x), y)},
		{"(1, x)", con(",", one, x)},
		{"(1, x, (y), 1)", con(",", one, x, y, one)},
		{"A (1, x) (B y)", con("A", con(",", one, x), con("B", y))},
		{"1 - x - y", op("-", op("-", one, x), y)},
		{"1 - (x - y)", op("-", one, op("-", x, y))},
		{"1 / x % y * 1", op("*", op("%", op("/", one, x), y), one)},
		{"1 + x * y + 1", op("+", op("+", one, op("*", x, y)), one)},
		{"1 + x < y * 1", op("<", op("+", one, x), op("*", y, one))},
		{"x = y + 1", op("=", x, op("+", y, one))},
		{"x -1", op("-", x, one)},
		{"x ~1", app(x, num(-1))},
		{"fn x => fn y => x < y", fn("x", fn("y", op("<", x, y)))},
		{"let x = let y = 1 in y in x", let("x", let("y", one, y), x)},
		{"let x = 1 = y in x", let("x", op("=", one, y), x)},
		{"let fun f x = f x in f", rec("f", "x", app(ref("f"), x), ref("f"))},
		{"case x of _ => 1 | Cons y _ => y end", cases([]api.Pat{wild(), match("Cons", bound("y"), wild())}, x, one, y)},
		{"case x of y => fn x => x | A => 1 end", cases([]api.Pat{bound("y"), match("A")}, x, fn("x", x), one)},
		{"case if x then 1 else y of _ => case x of _ => 1 end end",
			cases([]api.Pat{wild()}, choice(x, one, y), cases([]api.Pat{wild()}, x, one))},
		{"if x then if y then 1 else x else let x = 1 in x", choice(x, choice(y, one, x), let("x", one, x))},
		{"(if x then 1 else y) + 1", op("+", choice(x, one, y), one)},
		{"if x then 1 else y + 1", choice(x, one, op("+", y, one))},
		{"f(* ( *)x(*)*)", app(ref("f"), x)},
	} {
		got, at, e := ParseExpr(c.text)
		if !same(got, c.want) || at != 0 || e != api.OK {
			t.Errorf("ParseExpr(%q) = %+v, %d, %v; expected %+v", c.text, got, at, e, c.want)
		}
	}
}

// P2.1: what types and patterns are read as.
func TestParseTypeAndPat(t *testing.T) {
	a, n := typ("'a"), typ("Int")
	for _, c := range []struct {
		text string
		want api.Type
	}{
		{"'a", a},
		{"Int", n},
		{"List 'a", typ("List", a)},
		{"Map Int (List 'a) Int", typ("Map", n, typ("List", a), n)},
		{"Int -> 'a -> Int", arrow(n, arrow(a, n))},
		{"(Int -> 'a) -> List 'a", arrow(arrow(n, a), typ("List", a))},
		{"(Int, 'a -> Int)", typ(",", n, arrow(a, n))},
		{"List (Int, 'a, Int, ('a))", typ("List", typ(",", n, a, n, a))},
		{"T (Int -> 'a)", typ("T", arrow(n, a))},
		{"Int Int", typ("Int", n)},
	} {
		got, at, e := ParseType(c.text)
		if !same(got, c.want) || at != 0 || e != api.OK {
			t.Errorf("ParseType(%q) = %+v, %d, %v; expected %+v", c.text, got, at, e, c.want)
		}
	}
	for _, c := range []struct {
		text string
		want api.Pat
	}{
		{"_", wild()},
		{"x", bound("x")},
		{"Nil", match("Nil")},
		{"(_)", wild()},
		{"Cons (a, _) r", match("Cons", match(",", bound("a"), wild()), bound("r"))},
		{"Cons Nil (Cons _ Nil)", match("Cons", match("Nil"), match("Cons", wild(), match("Nil")))},
		{"(A x, y, _, B)", match(",", match("A", bound("x")), bound("y"), wild(), match("B"))},
	} {
		got, at, e := ParsePat(c.text)
		if !same(got, c.want) || at != 0 || e != api.OK {
			t.Errorf("ParsePat(%q) = %+v, %d, %v; expected %+v", c.text, got, at, e, c.want)
		}
	}
}

// everyDecl is a program with every form of declaration, and its text.
const everyDecl = "data T = A | B Int ( List 'a ) ( Int -> 'b ) ( Int , 'a ) ; data P 'a 'b = P 'a ; " +
	"input l : List ( Int -> T ) ; fun f x = g x and g y = 1 ; fun h x = x ; val v = f 1 ; output o = v ;"

func everyProgram() api.Program {
	a, b, n := typ("'a"), typ("'b"), typ("Int")
	return program(
		data("T", nil, api.Con{Name: "A"}, api.Con{Name: "B", Args: []api.Type{n, typ("List", a), arrow(n, b), typ(",", n, a)}}),
		data("P", []string{"'a", "'b"}, api.Con{Name: "P", Args: []api.Type{a}}),
		input("l", typ("List", arrow(n, typ("T")))),
		funs(api.Fun{Name: "f", Arg: "x", Body: app(ref("g"), ref("x"))}, api.Fun{Name: "g", Arg: "y", Body: num(1)}),
		funs(api.Fun{Name: "h", Arg: "x", Body: ref("x")}),
		val("v", app(ref("f"), num(1))),
		output("o", ref("v")))
}

// P2.1: what a program is read as, and printed as.
func TestProgram(t *testing.T) {
	for text, want := range map[string]api.Program{"": {}, " (* none *)\n": {}, everyDecl: everyProgram()} {
		got, at, e := Parse(text)
		if !same(got, want) || at != 0 || e != api.OK {
			t.Errorf("Parse(%q) = %+v, %d, %v; expected %+v", text, got, at, e, want)
		}
	}
	if text, e := Print(everyProgram()); text != everyDecl || e != api.OK {
		t.Errorf("Print = %q, %v; expected %q", text, e, everyDecl)
	}
	if text, e := Print(api.Program{}); text != "" || e != api.OK {
		t.Errorf("Print of no declarations = %q, %v", text, e)
	}
}

// P2.1: where a text is wrong (^ stands before the token; without it the number is that of all bytes).
func TestSyntaxErrors(t *testing.T) {
	texts := map[string][]string{
		"program": {"^1", "^;", "^x", "data T = A;^;", "data ^x", "data ^'a", "data T 'a ^B = A;", "data T 'a ^(", "data T ^;", "data T = ^;",
			"data T = A | ^;", "data T = A Int ^-> Int;", "data T = ^(A);", "data T = ^'a;", "input l ^= 1;", "input ^L : Int;", "input l : ^;",
			"input l : Int ^= 1;", "val ^;", "val x ^;", "val x = ^;", "val x ^y = 1;", "val x = 1", "val x = 1 ", "val x = 1 (**)\n", "val x = 1 ^val y = 2;",
			"val x = 1 ^and y = 2;", "val x = 1 ^in x;", "output x = 1 ^=> 2;", "fun f ^= 1;", "fun f x", "fun f x ^y = 1;", "fun f x = 1 and ^;",
			"fun f x = 1 and g ^= 2;", "fun f x = 1 and g y = 2 ^| 3;", "fun ^_ x = 1;", "fun f ^_ = 1;", "val ^let", "val x =", "val ^let = 1;", "val x = 1; ^x"},
		"expr": {"", " ", "^)", "(^)", "(1", "(1,", "(1,^)", "(1^;", "1 < 2 ^< 3", "1 = 2 ^= 3", "1 < 2 ^= 3", "1 + ^", "1 + ^+ 2", "^- 1", "let x = 1", "(1, 2, 3, 4^, 5)",
			"1 + ^fn x => x", "f ^fn x => x", "1 * ^if", "1 < ^case", "f ^let", "A ^let", "case x of _ => 1 end ^+ 1", "case x of _ => 1 end ^x",
			"case x of ^end", "case x of ^1", "case x ^=> 1", "case x of _ => 1 | ^end", "case x of _ ^-> 1", "case x of A b ^1", "case x of _ => 1 ^of",
			"fn ^=> x", "fn ^X => x", "fn x ^y => x", "fn x ^= x", "fn x ^-> x", "let ^in", "let x ^y = 1", "let fun f ^= 1", "let fun ^let", "let fun f x = 1",
			"let x = 1 in", "let x = 1 ^and", "if x ^else", "if x then 1", "if x then 1 ^end", "if x then 1 else", "1 ^_", "^_", "^'a", "x ^'a", "1 ^: Int", "1 ^;", "1 ^| 2", "x^'a"},
		"type": {"", "^int", "^1", "^->", "Int ->", "Int -> ^->", "Int ^, Int", "(Int, Int", "(^)", "(Int,^)", "(Int, Int, Int, Int^, Int)", "'a ^'b", "(Int) ^Int",
			"List 'a ^_", "^_", "Int ^* Int", "Int^)", "^fn"},
		"pat": {"", "^1", "A ^1", "x ^y", "_ ^_", "(x) ^y", "(x, y", "(^)", "(x,^)", "(x, y, z, w^, v)", "^'a", "A ^=>", "A^)", "^if", "^~1"},
	}
	for _, s := range starts {
		for _, marked := range texts[s.name] {
			text := strings.Replace(marked, "^", "", 1)
			want := strings.Index(marked, "^")
			if want < 0 {
				want = len(text)
			}
			if at, e := s.parse(text); at != want || e != api.ErrSyntax {
				t.Errorf("%q as a text of %s = %d, %v; expected %d", text, s.name, at, e, want)
			}
		}
	}
	for text, want := range map[string]int{"1 < 2 < 3": 6, "let x = 1": 9, "(1, 2, 3, 4, 5)": 11} {
		if got, at, e := ParseExpr(text); !same(got, api.Expr{}) || at != want || e != api.ErrSyntax {
			t.Errorf("ParseExpr(%q) = %+v, %d, %v; expected %d", text, got, at, e, want)
		}
	}
}

// P2.1: the errors of a text are those of lex.Scan first, then ErrSyntax, and then those of the tree.
func TestParseErrors(t *testing.T) {
	deep := strings.Repeat("f (", api.MaxDeep) + "x" + strings.Repeat(")", api.MaxDeep)
	long := "f" + strings.Repeat(" A", api.MaxArms+1)
	many := "f" + strings.Repeat("("+strings.Repeat("A + ", 49)+"A)", api.MaxNodes/100)
	for _, c := range []struct {
		text string
		at   int
		e    api.Errno
	}{
		{strings.Repeat(" ", api.MaxText+1), 0, api.ErrLong},
		{"1 ) !", 4, api.ErrByte},
		{"1 ) 01", 4, api.ErrDigit},
		{"1 ) (*", 4, api.ErrComment},
		{"1 ) " + longName + "n", 4, api.ErrLong},
		{") " + deep, 0, api.ErrSyntax},
		{deep + ")", len(deep), api.ErrSyntax},
		{deep, 0, api.ErrDeep},
		{long, 0, api.OK},
		{"A" + long[1:], 0, api.ErrShape},
		{"(A" + long[1:] + ") + 1 )", len(long) + 7, api.ErrSyntax},
		{many, 0, api.ErrLong},
		{many + " (A" + long[1:] + ")", 0, api.ErrLong},
		{many + "(" + deep + ")", 0, api.ErrDeep},
		{"case x of _ => 1" + strings.Repeat(" | _ => 1", api.MaxArms-1) + " end", 0, api.OK},
		{"case x of _ => 1" + strings.Repeat(" | _ => 1", api.MaxArms) + " end", 0, api.ErrShape},
		{"x" + strings.Repeat("+x", api.MaxDeep-1), 0, api.OK},
		{"x" + strings.Repeat("+x", api.MaxDeep), 0, api.ErrDeep},
		{strings.Repeat("(", 9000) + "x" + strings.Repeat(")", 9000), 0, api.OK},
		{strings.Repeat("(", api.MaxText), api.MaxText, api.ErrSyntax},
		{strings.Repeat("fn x=>", 3000), 18000, api.ErrSyntax},
		{strings.Repeat("fn x=>", 3000) + "x", 0, api.ErrDeep},
	} {
		got, at, e := ParseExpr(c.text)
		if at != c.at || e != c.e || (e != api.OK && !same(got, api.Expr{})) {
			t.Errorf("ParseExpr(%.40q) = %d, %v; expected %d, %v", c.text, at, e, c.at, c.e)
		}
	}
	for text, want := range map[string]api.Errno{
		strings.Repeat("val x=1;", api.MaxDecls):                                 api.OK,
		strings.Repeat("val x=1;", api.MaxDecls+1):                               api.ErrLong,
		"fun f x=1" + strings.Repeat(" and f x=1", api.MaxArms-1) + ";":          api.OK,
		"fun f x=1" + strings.Repeat(" and f x=1", api.MaxArms) + ";":            api.ErrShape,
		"data T" + strings.Repeat(" 'a", api.MaxArms) + "=A;":                    api.OK,
		"data T" + strings.Repeat(" 'a", api.MaxArms+1) + "=A;":                  api.ErrShape,
		"data T=A" + strings.Repeat("|A", api.MaxArms-1) + ";":                   api.OK,
		"data T=A" + strings.Repeat("|A", api.MaxArms) + ";":                     api.ErrShape,
		"data T=A" + strings.Repeat(" Int", api.MaxArms) + ";":                   api.OK,
		"data T=A" + strings.Repeat(" Int", api.MaxArms+1) + ";":                 api.ErrShape,
		"input l:" + strings.Repeat("Int->", api.MaxDeep-1) + "Int;":             api.OK,
		"input l:" + strings.Repeat("Int->", api.MaxDeep) + "Int;":               api.ErrDeep,
		"val x=case x of " + strings.Repeat("A (", 99) + strings.Repeat(")", 99): api.ErrSyntax,
	} {
		if _, _, e := Parse(text); e != want {
			t.Errorf("Parse(%.40q) = %v; expected %v", text, e, want)
		}
	}
	if _, at, e := ParseType("T" + strings.Repeat(" Int", api.MaxArms+1)); at != 0 || e != api.ErrShape {
		t.Errorf("ParseType of too many Args = %d, %v", at, e)
	}
	if _, at, e := ParsePat("T" + strings.Repeat(" _", api.MaxArms+1)); at != 0 || e != api.ErrShape {
		t.Errorf("ParsePat of too many Args = %d, %v", at, e)
	}
}

// P2.1: what expressions are printed as.
func TestPrintExpr(t *testing.T) {
	x, one := ref("x"), num(1)
	for _, c := range []struct {
		e    api.Expr
		want string
	}{
		{num(-3), "~3"},
		{op("-", one, op("-", num(2), num(3))), "1 - ( 2 - 3 )"},
		{op("-", op("-", one, num(2)), num(3)), "1 - 2 - 3"},
		{app(fn("x", x), one), "( fn x => x ) 1"},
		{app(app(x, one), app(x, one)), "x 1 ( x 1 )"},
		{app(con("A"), con("B")), "( A ) B"},
		{app(con("A", one), con("B", one)), "( A 1 ) ( B 1 )"},
		{app(con(",", one, x), con(",", x, one)), "( 1 , x ) ( x , 1 )"},
		{app(one, x), "1 x"},
		{con("A", con("B"), con("B", x), app(x, x), con(",", x, fn("x", x))), "A B ( B x ) ( x x ) ( x , fn x => x )"},
		{op("*", op("+", one, x), op("*", one, x)), "( 1 + x ) * ( 1 * x )"},
		{op("+", op("*", one, x), op("%", one, x)), "1 * x + 1 % x"},
		{op("<", op("=", one, x), op("<", one, x)), "( 1 = x ) < ( 1 < x )"},
		{op("=", op("+", one, x), op("-", one, x)), "1 + x = 1 - x"},
		{op("+", fn("x", x), let("x", one, x)), "( fn x => x ) + ( let x = 1 in x )"},
		{op("/", con("A", one), app(x, one)), "A 1 / x 1"},
		{choice(op("<", x, one), fn("x", x), choice(x, x, x)), "if x < 1 then fn x => x else if x then x else x"},
		{op("=", choice(x, x, x), rec("f", "x", x, x)), "( if x then x else x ) = ( let fun f x = x in x )"},
		{cases([]api.Pat{match("False"), match("True")}, x, one, x), "case x of False => 1 | True => x end"},
		{cases([]api.Pat{match("True"), match("False"), wild()}, x, one, x, x), "case x of True => 1 | False => x | _ => x end"},
		{cases([]api.Pat{match("True")}, x, one), "case x of True => 1 end"},
		{cases([]api.Pat{match("True", wild()), match("False")}, x, one, x), "case x of True _ => 1 | False => x end"},
		{cases([]api.Pat{match("True"), match("False", wild())}, x, one, x), "case x of True => 1 | False _ => x end"},
		{cases([]api.Pat{match("A", match("B"), match("B", wild()))}, fn("x", x), fn("x", x)), "case fn x => x of A B ( B _ ) => fn x => x end"},
		{app(cases([]api.Pat{wild()}, x, x), cases([]api.Pat{wild()}, x, x)), "( case x of _ => x end ) ( case x of _ => x end )"},
	} {
		if got, e := PrintExpr(c.e); got != c.want || e != api.OK {
			t.Errorf("PrintExpr(%+v) = %q, %v; expected %q", c.e, got, e, c.want)
		}
	}
}

// P2.1: what types and patterns are printed as.
func TestPrintTypeAndPat(t *testing.T) {
	a, n := typ("'a"), typ("Int")
	for _, c := range []struct {
		t    api.Type
		want string
	}{
		{arrow(arrow(n, a), typ("List", a)), "( Int -> 'a ) -> List 'a"},
		{arrow(typ("List", a), arrow(n, a)), "List 'a -> Int -> 'a"},
		{typ("T", n, typ("T", n), arrow(n, a), typ(",", arrow(n, a), typ("T", n))), "T Int ( T Int ) ( Int -> 'a ) ( Int -> 'a , T Int )"},
		{arrow(typ(",", a, n, a), a), "( 'a , Int , 'a ) -> 'a"},
	} {
		if got, e := PrintType(c.t); got != c.want || e != api.OK {
			t.Errorf("PrintType(%+v) = %q, %v; expected %q", c.t, got, e, c.want)
		}
	}
	for _, c := range []struct {
		p    api.Pat
		want string
	}{
		{match("Cons", match(",", bound("a"), wild()), bound("r")), "Cons ( a , _ ) r"},
		{match(",", match("A", wild()), match("A")), "( A _ , A )"},
		{match("A", match("A"), match("A", match("A"))), "A A ( A A )"},
	} {
		if got, e := PrintPat(c.p); got != c.want || e != api.OK {
			t.Errorf("PrintPat(%+v) = %q, %v; expected %q", c.p, got, e, c.want)
		}
	}
}

// P2.2, P2.3: a program whose text is longer than a text may be is printed all the same.
func TestPrintLong(t *testing.T) {
	name := ref(longName)
	p := program(times(api.MaxDecls, val(longName, con("A", times(api.MaxArms, name)...)))...)
	text, e := Print(p)
	if e != api.OK || len(text) <= api.MaxText {
		t.Fatalf("the text has %d bytes, %v", len(text), e)
	}
	if _, at, e := Parse(text); at != 0 || e != api.ErrLong {
		t.Errorf("Parse = %d, %v", at, e)
	}
	if l, _, e := lex.Long(text); lex.Join(l) != text || e != api.OK {
		t.Errorf("the text is not what lex.Join returns: %v", e)
	}
}

// P2.1: the expressions at places, and places at which there is none.
func TestAt(t *testing.T) {
	p, at, e := Parse(everyDecl + "val c = case f x of A => 1 | B y => fn z => (y, z) end;")
	if e != api.OK {
		t.Fatalf("%d, %v", at, e)
	}
	for _, c := range []struct {
		decl, fun int
		path      []int
		want      string
	}{
		{3, 0, nil, "g x"}, {3, 0, []int{0}, "g"}, {3, 0, []int{1}, "x"}, {3, 1, nil, "1"}, {4, 0, []int{}, "x"}, {5, 0, nil, "f 1"}, {5, 0, []int{1}, "1"},
		{6, 0, nil, "v"}, {7, 0, nil, "case f x of A => 1 | B y => fn z => ( y , z ) end"}, {7, 0, []int{0, 1}, "x"}, {7, 0, []int{1}, "1"},
		{7, 0, []int{2}, "fn z => ( y , z )"}, {7, 0, []int{2, 0}, "( y , z )"}, {7, 0, []int{2, 0, 1}, "z"},
	} {
		got, e := At(p, api.Blame{Decl: c.decl, Fun: c.fun, Path: c.path})
		if text, f := PrintExpr(got); text != c.want || e != api.OK || f != api.OK {
			t.Errorf("At(%d, %d, %v) = %q, %v; expected %q", c.decl, c.fun, c.path, text, e, c.want)
		}
	}
	for _, b := range []api.Blame{
		{Decl: -1}, {Decl: 8}, {Decl: 1 << 62}, {Decl: 0}, {Decl: 2}, {Decl: 0, Path: []int{0}}, {Decl: 3, Fun: -1}, {Decl: 3, Fun: 2}, {Decl: 5, Fun: 1}, {Decl: 5, Fun: -1},
		{Decl: 6, Fun: 1}, {Decl: 6, Path: []int{0}}, {Decl: 5, Path: []int{2}}, {Decl: 5, Path: []int{-1}}, {Decl: 5, Path: []int{0, 0}}, {Decl: 7, Path: []int{3}},
		{Decl: 7, Path: make([]int, 100000)}, {Decl: 5, Path: []int{2, 0}},
	} {
		if got, e := At(p, b); !same(got, api.Expr{}) || e != api.ErrNone {
			t.Errorf("At(%.60v) = %+v, %v", b, got, e)
		}
	}
	p.Decls[1].Data.Name = "t"
	if got, e := At(p, api.Blame{Decl: 3}); !same(got, api.Expr{}) || e != api.ErrShape {
		t.Errorf("At in a program that is not well formed = %+v, %v", got, e)
	}
	if _, e := At(program(val("x", deepExpr(101))), api.Blame{Decl: 9}); e != api.ErrDeep {
		t.Errorf("At in a program that is too deep = %v", e)
	}
}
