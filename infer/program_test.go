package infer

import (
	"reflect"
	"slices"
	"strings"
	"testing"

	"restitch/api"
)

// data declares types for the tests, in the declarations 0 to 3.
const data = "data List 'a = Nil | Cons 'a (List 'a); data Ints = End | Item Int Ints; data Pair 'a 'b = P 'a 'b; data Op = O (Int -> Int); "

// fault is a program, with the place and the error that it should have.
type fault struct {
	text string
	decl int
	e    api.Errno
}

// P3.6: the data types of a program.
func TestDatas(t *testing.T) {
	for text, want := range map[string]string{
		"":           "Bool  = False | True",
		"val x = 1;": "Bool  = False | True",
		data:         "Bool  = False | True; List 'a = Nil | Cons 'a (List 'a); Ints  = End | Item Int Ints; Pair 'a 'b = P 'a 'b; Op  = O (Int -> Int)",
		"data B = B C; val x = y; data C = C B | D;":                                    "Bool  = False | True; B  = B C; C  = C B | D",
		"data T = Int | T; data Int'1 'a = I ('a, List Int); data List 'b = N ;":        "Bool  = False | True; T  = Int | T; Int'1 'a = I ('a, List Int); List 'b = N",
		"data W 'a = W (X (List Int) 'a); data List 'a = N; data X 'a 'b = X ('b, 'a);": "Bool  = False | True; W 'a = W (X (List Int) 'a); List 'a = N; X 'a 'b = X ('b, 'a)",
		"data W 'a = W (('a, 'a) -> 'a) ((List 'a, 'a) -> List 'a); data List 'a = N;":  "Bool  = False | True; W 'a = W (('a, 'a) -> 'a) ((List 'a, 'a) -> List 'a); List 'a = N",
	} {
		got, at, e := Datas(program(text))
		errs(t, text, e, api.OK)
		if !isZero(at) || showDatas(got) != want {
			t.Errorf("Datas of %q: %v, %s, expected %s", text, at, showDatas(got), want)
		}
	}
}

func showDatas(l []api.Data) string {
	var texts []string
	for _, d := range l {
		var cons []string
		for _, c := range d.Cons {
			words := []string{c.Name}
			for _, a := range c.Args {
				if text := show(a); len(a.Args) > 0 && a.Name != "," {
					words = append(words, "("+text+")")
				} else {
					words = append(words, text)
				}
			}
			cons = append(cons, strings.Join(words, " "))
		}
		texts = append(texts, d.Name+" "+strings.Join(d.Vars, " ")+" = "+strings.Join(cons, " | "))
	}
	return strings.Join(texts, "; ")
}

// dataFaults are programs that break a rule of data types, and programs that break several, of which one is the first.
func dataFaults() []fault {
	return []fault{
		{"data Bool = A;", 0, api.ErrTwice},
		{"data Int = A;", 0, api.ErrTwice},
		{"val x = 1; data A = A; data B = B; data A = C;", 3, api.ErrTwice},
		{"data A 'a 'b 'a = A;", 0, api.ErrTwice},
		{"data A = False;", 0, api.ErrTwice},
		{"data A = B | True;", 0, api.ErrTwice},
		{"data A = B | C | B;", 0, api.ErrTwice},
		{"data A = B; data C = D | B;", 1, api.ErrTwice},
		{"data A = B X;", 0, api.ErrName},
		{"data A = B 'a;", 0, api.ErrName},
		{"data A 'b = B ('b, 'a);", 0, api.ErrName},
		{"data A = B (Int -> X);", 0, api.ErrName},
		{"data A = B (Int Int);", 0, api.ErrCount},
		{"data A = B (Bool Int);", 0, api.ErrCount},
		{"data A 'a = B A;", 0, api.ErrCount},
		{"data A 'a = B (A 'a 'a);", 0, api.ErrCount},
		{"data A = B (C Int, Int); data C = C;", 0, api.ErrCount},
		{"data A 'a = B (A (A 'a));", 0, api.ErrWide},
		{"data A 'a = B (A ('a, Int));", 0, api.ErrWide},
		{"data A 'a = B (A ('a -> Int));", 0, api.ErrWide},
		{"data A 'a = B (Int -> (Int, A (A (A 'a))));", 0, api.ErrWide},
		{"data A 'a 'b = B (A 'a (A 'b Int));", 0, api.ErrWide},
		{"data A 'a = B (A (A (Int -> 'a)));", 0, api.ErrWide},
		// Of several errors the first one by the order of the rules.
		{"data A 'a 'a = False X;", 0, api.ErrTwice},
		{"data A = B X | B;", 0, api.ErrName},
		{"data A = B | B X;", 0, api.ErrTwice},
		{"data A = B (A Int) X;", 0, api.ErrCount},
		{"data A = B X (A Int);", 0, api.ErrName},
		{"data A = B (A X);", 0, api.ErrCount},
		{"data A 'a = B (A X) (A Int Int);", 0, api.ErrName},
		{"data A 'a = B (A X X);", 0, api.ErrCount},
		{"data A 'a = B (A (A 'a)) X;", 0, api.ErrName},
		{"data A 'a = B (A (A 'a)) (A 'a 'a);", 0, api.ErrCount},
		{"data A 'a = B (A (A 'a)) | C X;", 0, api.ErrWide},
		{"data A 'a = B | C (A (A 'a)) | C;", 0, api.ErrWide},
		{"data A 'a = B (A (A X)) Int;", 0, api.ErrName},
		{"data A = B (C Int); data C = C; data C 'a = D;", 0, api.ErrCount},
		{"data A = B C; data C = C; data C 'a = D;", 2, api.ErrTwice},
		{"data A = B (Bool Int); data Bool 'a = D;", 0, api.ErrCount},
		{"val x = y; data A = B X;", 1, api.ErrName},
		{"data A = B X; data A = B;", 0, api.ErrName},
	}
}

// P3.6, P3.7: the rules of data types, by Datas, Static and Infer.
func TestDataFaults(t *testing.T) {
	for _, c := range dataFaults() {
		p := program(c.text)
		want := api.Blame{Decl: c.decl}
		l, at, e := Datas(p)
		errs(t, c.text, e, c.e)
		if len(l) != 0 || !sameBlame(at, want) {
			t.Errorf("Datas of %s: %v, %v", c.text, l, at)
		}
		checkFault(t, c.text, p, want, c.e, true)
	}
}

// checkFault checks that Infer has an error, and Static if it is one of names.
func checkFault(t *testing.T, what string, p api.Program, want api.Blame, code api.Errno, static bool) {
	t.Helper()
	at, e := Static(p)
	if !static {
		if e != api.OK || !isZero(at) {
			t.Errorf("Static of %s: %d at %v", what, e, at)
		}
	} else if e != code || !sameBlame(at, want) {
		t.Errorf("Static of %s: %d at %v, expected %d at %v", what, e, at, code, want)
	}
	l, at, e := Infer(p)
	if e != code || !sameBlame(at, want) || len(l) != 0 {
		t.Errorf("Infer of %s: %d at %v, %v, expected %d at %v", what, e, at, l, code, want)
	}
}

// P3.6, P3.7, P3.8: programs that syntax.Check does not accept.
func TestUnformed(t *testing.T) {
	deep := api.Expr{Kind: api.ENum}
	for range 100 {
		deep = api.Expr{Kind: api.EFn, Arg: "x", Args: []api.Expr{deep}}
	}
	ring := api.Expr{Kind: api.EApp, Args: make([]api.Expr, 2)}
	ring.Args[0], ring.Args[1] = ring, ring
	value := func(e api.Expr) api.Program {
		return api.Program{Decls: []api.Decl{program("val y = z;").Decls[0], {Kind: api.DVal, Name: "x'1", Body: e}}}
	}
	for i, c := range []struct {
		p api.Program
		e api.Errno
	}{
		{value(deep), api.ErrDeep},
		{value(ring), api.ErrDeep},
		{value(api.Expr{}), api.ErrShape},
		{value(api.Expr{Kind: api.EVar, Name: "X"}), api.ErrShape},
		{api.Program{Decls: []api.Decl{{}}}, api.ErrShape},
		{api.Program{Decls: slices.Repeat(program("val y = z;").Decls, 61)}, api.ErrLong},
		{api.Program{Decls: []api.Decl{{Kind: api.DInput, Name: "i", Type: vast(30)}}}, api.ErrLong},
		{api.Program{Decls: []api.Decl{{Kind: api.DInput, Name: "i", Type: endlessType()}}}, api.ErrDeep},
		{api.Program{Decls: []api.Decl{{Kind: api.DInput, Name: "i", Type: api.Type{Name: "->"}}}}, api.ErrShape},
	} {
		l, at, e := Datas(c.p)
		m, at2, e2 := Infer(c.p)
		at3, e3 := Static(c.p)
		at4, e4 := Source(c.p)
		if e != c.e || e2 != c.e || e3 != c.e || e4 != c.e {
			t.Errorf("program %d: %d, %d, %d, %d, expected %d", i, e, e2, e3, e4, c.e)
		}
		if len(l)+len(m) > 0 || !isZero(at) || !isZero(at2) || !isZero(at3) || !isZero(at4) {
			t.Errorf("program %d: results with an error", i)
		}
	}
}

// endlessType is a type without an end to its depth.
func endlessType() api.Type {
	list := make([]api.Type, 1)
	list[0] = api.Type{Name: "List", Args: list}
	return list[0]
}

// nameFault is a fault with a whole place.
type nameFault struct {
	text string
	fun  int
	path string
	decl int
	e    api.Errno
}

// place reads a path: its numbers are digits.
func (f nameFault) place() api.Blame {
	at := api.Blame{Decl: f.decl, Fun: f.fun}
	for _, c := range f.path {
		at.Path = append(at.Path, int(c-'0'))
	}
	return at
}

// P3.7: the rules of names.
func TestNameFaults(t *testing.T) {
	for _, c := range []nameFault{
		{"val x = 1; val x = 2;", 0, "", 1, api.ErrTwice},
		{"fun f x = x; val f = 2;", 0, "", 1, api.ErrTwice},
		{"input f : Int; output f = 2;", 0, "", 1, api.ErrTwice},
		{"output f = 1; input f : Int;", 0, "", 1, api.ErrTwice},
		{"output f = 1; output f = 1;", 0, "", 1, api.ErrTwice},
		{"val f = 1; fun g x = x and h x = x and f x = x;", 2, "", 1, api.ErrTwice},
		{"fun g x = x and h x = x and g x = x;", 2, "", 0, api.ErrTwice},
		{"fun g x = z and h x = x and g x = x;", 2, "", 0, api.ErrTwice},
		{"val x = 1; val x = z;", 0, "", 1, api.ErrTwice},
		{"val x = y;", 0, "", 0, api.ErrName},
		{"val x = x;", 0, "", 0, api.ErrName},
		{"val x = y; val y = 1;", 0, "", 0, api.ErrName},
		{"val x = f 1; fun f x = x;", 0, "0", 0, api.ErrName},
		{"fun g x = f x; fun f x = x;", 0, "0", 0, api.ErrName},
		{"val y = 1; fun f x = y;", 0, "", 1, api.ErrName},
		{"input y : Int; fun g x = x and f x = g y;", 1, "1", 1, api.ErrName},
		{"output y = 1; val x = y;", 0, "", 1, api.ErrName},
		{"output y = 1; fun f x = y;", 0, "", 1, api.ErrName},
		{"output y = y;", 0, "", 0, api.ErrName},
		{"val x = (1, (fn y => y) y);", 0, "11", 0, api.ErrName},
		{"val x = let y = y in y;", 0, "0", 0, api.ErrName},
		{"val x = (let y = 1 in y) + y;", 0, "1", 0, api.ErrName},
		{"val x = let fun f y = f y in y;", 0, "1", 0, api.ErrName},
		{"val x = (let fun f y = f y in f) f;", 0, "1", 0, api.ErrName},
		{"val x = case z of y => y end;", 0, "0", 0, api.ErrName},
		{"val x = case y of y => y end;", 0, "0", 0, api.ErrName},
		{"val x = case 1 of y => 1 | z => y end;", 0, "2", 0, api.ErrName},
		{"val x = A;", 0, "", 0, api.ErrName},
		{"val x = 1 + Int;", 0, "1", 0, api.ErrName},
		{data + "val x = (Nil 1, 2);", 0, "0", 4, api.ErrCount},
		{data + "val x = Cons 1;", 0, "", 4, api.ErrCount},
		{data + "val x = Cons;", 0, "", 4, api.ErrCount},
		{data + "val x = Pair 1 2;", 0, "", 4, api.ErrName},
		{"val x = True 1;", 0, "", 0, api.ErrCount},
		{data + "val x = fn l => case l of B => 1 end;", 0, "0", 4, api.ErrName},
		{"val x = fn l => case l of (_, Cons B z) => 1 end;", 0, "0", 0, api.ErrName},
		{data + "val x = fn l => case l of Cons y => 1 end;", 0, "0", 4, api.ErrCount},
		{data + "val x = fn l => case l of Nil y => 1 end;", 0, "0", 4, api.ErrCount},
		{data + "val x = fn l => case l of Cons y y => 1 end;", 0, "0", 4, api.ErrTwice},
		{"val x = fn l => 1 + (case l of ((y, _), (z, y)) => 1 end);", 0, "01", 0, api.ErrTwice},
		{"val x = fn l => case l of ((y, y), A) => 1 end;", 0, "0", 0, api.ErrName},
		{"val x = fn l => case l of ((y, y), True z) => 1 end;", 0, "0", 0, api.ErrCount},
		// An expression before its Args, a pattern before its Args, a pattern before its arm.
		{data + "val x = Cons y;", 0, "", 4, api.ErrCount},
		{data + "val x = B y;", 0, "", 4, api.ErrName},
		{data + "val x = (y, Cons);", 0, "0", 4, api.ErrName},
		{data + "val x = fn l => case l of Cons B => 1 end;", 0, "0", 4, api.ErrCount},
		{data + "val x = fn l => case l of (Cons, B) => 1 end;", 0, "0", 4, api.ErrCount},
		{data + "val x = fn l => case l of (B, Cons) => 1 end;", 0, "0", 4, api.ErrName},
		{data + "val x = case z of Cons => 1 end;", 0, "0", 4, api.ErrName},
		{data + "val x = case Cons of B => y end;", 0, "0", 4, api.ErrCount},
		{data + "val x = case 1 of Nil => y | Cons => y end;", 0, "1", 4, api.ErrName},
		{data + "val x = case 1 of (a, a) => y | Cons => y end;", 0, "", 4, api.ErrTwice},
		{data + "val x = case 1 of Cons => y | (a, a) => y end;", 0, "", 4, api.ErrCount},
		{"fun f x = y and g x = A;", 0, "", 0, api.ErrName},
		{"fun f x = x and g x = (x, A);", 1, "1", 0, api.ErrName},
		{"val x = y; val x = 1;", 0, "", 0, api.ErrName},
		{"val x = True 1; val y = 1; data A = B 'c;", 0, "", 2, api.ErrName},
	} {
		checkFault(t, c.text, program(c.text), c.place(), c.e, true)
	}
}

// P3.7: names that hide others, and where names are in force.
func TestScopes(t *testing.T) {
	for text, want := range map[string]string{
		"val x = 1; val y = x; output o = (x, y); fun f x = x; val z = f y;":        "x: Int; y: Int; o: (Int, Int); f: 'a -> 'a; z: Int",
		"fun f f = f; fun g f = f g and h x = g;":                                   "",
		"fun f f = f + 1; val g = f;":                                               "f: Int -> Int; g: Int -> Int",
		"input i : Int; val v = fn i => if i then i else i; output o = i;":          "i: Int; v: Bool -> Bool; o: Int",
		"val x = let fun f f = f in f 1;":                                           "x: Int",
		"val x = let fun f y = 1 + f y in f True;":                                  "x: Int",
		"val x = let y = True in let y = if y then 1 else 2 in y + 1;":              "x: Int",
		"val x = case (1, True) of (x, y) => case y of True => x | x => 2 end end;": "x: Int",
		"fun f x = g x and g x = f x; val h = (f, g);":                              "f: 'a -> 'b; g: 'a -> 'b; h: (Int -> Int, Int -> Int)",
		"fun f x = x; val x = f; val f'1 = f x;":                                    "f: 'a -> 'a; x: Int -> Int; f'1: Int -> Int",
		"val f = 1; fun g f = f; data F = F;":                                       "f: Int; g: 'a -> 'a",
		"output o = fn'1; val fn'2 = 1;":                                            "",
	} {
		l, _, e := Infer(program(text))
		if (e == api.OK) != (want != "") || showNamed(l) != want {
			t.Errorf("Infer of %s: %s, %d; expected %s", text, showNamed(l), e, want)
		}
	}
}

// P3.7: the rules of inputs.
func TestInputs(t *testing.T) {
	for _, c := range []fault{
		{"input i : Int;", 0, api.OK},
		{"input i : Ints;", 4, api.OK},
		{"input i : T; data T = A Int T T | B | C T;", 4, api.OK},
		{"input i : 'a;", 4, api.ErrInType},
		{"input i : Int -> Int;", 4, api.ErrInType},
		{"input i : (Int, Int);", 4, api.ErrInType},
		{"input i : X -> Int;", 4, api.ErrInType},
		{"input i : (List, 'a);", 4, api.ErrInType},
		{"input i : X;", 4, api.ErrName},
		{"input i : X 'a;", 4, api.ErrName},
		{"input i : List 'a;", 4, api.ErrName},
		{"input i : List X;", 4, api.ErrName},
		{"input i : List (Int -> X);", 4, api.ErrName},
		{"input i : Int Int;", 4, api.ErrCount},
		{"input i : Int X;", 4, api.ErrCount},
		{"input i : Bool Int;", 4, api.ErrCount},
		{"input i : List;", 4, api.ErrCount},
		{"input i : List Int Int;", 4, api.ErrCount},
		{"input i : List X X;", 4, api.ErrCount},
		{"input i : Pair X List;", 4, api.ErrName},
		{"input i : Pair List X;", 4, api.ErrCount},
		{"input i : Ints Int;", 4, api.ErrCount},
		{"input i : List (Ints Int);", 4, api.ErrCount},
		{"input i : Bool;", 4, api.ErrInType},
		{"input i : List Int;", 4, api.ErrInType},
		{"input i : Op;", 4, api.ErrInType},
		{"input i : T; data T = A | B Bool;", 4, api.ErrInType},
		{"input i : T; data T = A | B Int Ints;", 4, api.ErrInType},
		{"input i : T; data T = A (Int, Int);", 4, api.ErrInType},
		{"input i : T; data T 'a = A Int;", 4, api.ErrCount},
		{"input i : T Int; data T 'a = A Int;", 4, api.ErrInType},
		{"val i = 1; input i : X;", 5, api.ErrTwice},
		{"input i : X; val i = 1;", 4, api.ErrName},
	} {
		p := program(data + c.text)
		if c.e != api.OK {
			checkFault(t, c.text, p, api.Blame{Decl: c.decl}, c.e, true)
		} else if _, at, e := Infer(p); e != api.OK || !isZero(at) {
			t.Errorf("Infer of %s: %d at %v", c.text, e, at)
		}
	}
}

// P3.7: the types of programs.
func TestInfer(t *testing.T) {
	for text, want := range map[string]string{
		"":            "",
		"data A = A;": "",
		"fun id x = x; val f = id; output o = id 3;":                                                               "id: 'a -> 'a; f: Int -> Int; o: Int",
		data + "fun map f = fn l => case l of Nil => Nil | Cons x t => Cons (f x) (map f t) end; output e = Nil;":  "map: ('a -> 'b) -> List 'a -> List 'b; e: List Int",
		data + "input l : Ints; fun sum l = case l of End => 0 | Item h t => h + sum t end; output total = sum l;": "l: Ints; sum: Ints -> Int; total: Int",
		"fun k x = fn y => x; fun s f = fn g => fn x => f x (g x); val i = s k k;":                                 "k: 'a -> 'b -> 'a; s: ('a -> 'b -> 'c) -> ('a -> 'b) -> 'a -> 'c; i: Int -> Int",
		"fun f x = (1 + 2, 1 - 2, 1 * 2, (1 / 2) % 3);":                                                            "f: 'a -> (Int, Int, Int, Int)",
		"val x = (1 < 2, 1 = 2); val n = ~3;":                                                                      "x: (Bool, Bool); n: Int",
		"fun f x = fn y => fn z => (z, y, x);":                                                                     "f: 'a -> 'b -> 'c -> ('c, 'b, 'a)",
		"fun f x = let y = x in (y, y);":                                                                           "f: 'a -> ('a, 'a)",
		"fun f x = let fun g y = (x, y) in g;":                                                                     "f: 'a -> 'b -> ('a, 'b)",
		"fun f p = case p of (x, (True, _)) => x | (x, _) => x + 1 end;":                                           "f: (Int, (Bool, 'a)) -> Int",
		"fun even n = if n = 0 then True else odd (n - 1) and odd n = if n = 0 then False else even (n - 1);":      "even: Int -> Bool; odd: Int -> Bool",
		"fun f x = g x and g x = x; output o = (f 1, f True, g (1, 2));":                                           "f: 'a -> 'a; g: 'a -> 'a; o: (Int, Bool, (Int, Int))",
		"fun f x = f x; val v = f f;":                                                                              "f: 'a -> 'b; v: Int",
		data + "val v = P Nil Nil; val f = fn x => P x Nil;":                                                       "v: Pair (List Int) (List Int); f: Int -> Pair Int (List Int)",
		data + "fun f g = O g; fun g o = case o of O f => f end;":                                                  "f: (Int -> Int) -> Op; g: Op -> Int -> Int",
		data + "fun swap p = case p of P x y => P y x end; fun both p = swap (swap p);":                            "swap: Pair 'a 'b -> Pair 'b 'a; both: Pair 'a 'b -> Pair 'a 'b",
		"data P 'a = P; fun f x = P; output o = P;":                                                                "f: 'a -> P 'b; o: P Int",
		"val t = (fn x => x, fn x => x); output o = case t of (f, g) => f 1 + g 2 end;":                            "t: (Int -> Int, Int -> Int); o: Int",
	} {
		l, at, e := Infer(program(text))
		if e != api.OK || !isZero(at) || showNamed(l) != want {
			t.Errorf("Infer of %s: %s, %d at %v; expected %s", text, showNamed(l), e, at, want)
		}
		for _, n := range l {
			if r, f := Rename(n.Scheme); f != api.OK || !reflect.DeepEqual(r, n.Scheme) {
				t.Errorf("the scheme %s is not as Rename returns it: %d", showScheme(n.Scheme), f)
			}
		}
	}
}

// P3.7: the steps at which a declaration has no types any more.
func TestTypeFaults(t *testing.T) {
	for _, c := range []nameFault{
		{"fun f x = x x;", 0, "", 0, api.ErrType},
		{"fun f x = (x + 1, if x then 1 else 2);", 0, "1", 0, api.ErrType},
		{"fun f x = (if x then 1 else 2, x + 1);", 0, "1", 0, api.ErrType},
		{"val v = 1 2;", 0, "", 0, api.ErrType},
		{"val v = (1, 2 + True);", 0, "1", 0, api.ErrType},
		{"val v = True + 2;", 0, "", 0, api.ErrType},
		{"val v = True < 2;", 0, "", 0, api.ErrType},
		{"val v = 2 = True;", 0, "", 0, api.ErrType},
		{"val v = (1 < 2) + 3;", 0, "", 0, api.ErrType},
		{"val v = ((1 - 1) < 2) = 3;", 0, "", 0, api.ErrType},
		// The variable of a let has a type of its own until the let's step, which comes at last.
		{"val v = let x = 1 in if x then 2 else 3;", 0, "", 0, api.ErrType},
		{"val v = let x = 1 in if x + 1 then 2 else 3;", 0, "1", 0, api.ErrType},
		{"val v = fn y => let fun f x = x + 1 in f True;", 0, "0", 0, api.ErrType},
		{"val v = fn y => let fun f x = f in 1;", 0, "0", 0, api.ErrType},
		{"val v = fn y => let fun f x = x x in 1;", 0, "00", 0, api.ErrType},
		// So has the variable of a pattern until the step of the case.
		{"val v = case 1 of x => if x then 2 else 3 end;", 0, "", 0, api.ErrType},
		{"val v = case 1 of True => 2 + True end;", 0, "1", 0, api.ErrType},
		{"val v = (1, case 1 of True => 2 end);", 0, "1", 0, api.ErrType},
		{"val v = case (1, 2) of (x, y, z) => 2 end;", 0, "", 0, api.ErrType},
		{"val v = case 1 of x => True | y => 1 end;", 0, "", 0, api.ErrType},
		{"val v = if True then 1 else True;", 0, "", 0, api.ErrType},
		// The patterns of a case are steps between what is looked at and the arms.
		{data + "val v = (1, case 1 of Item True x => 2 + True end);", 0, "1", 4, api.ErrType},
		{data + "val v = (1, case 1 + True of Item True x => 2 end);", 0, "10", 4, api.ErrType},
		{data + "val v = case 1 of x => 1 + True | Item True y => 1 end;", 0, "", 4, api.ErrType},
		{data + "val v = fn l => case l of Cons True (Cons (P x y) z) => 1 end;", 0, "0", 4, api.ErrType},
		{data + "val v = Cons 1 (Cons True Nil);", 0, "", 4, api.ErrType},
		{data + "val v = Cons (1 + True) (Item 1 1);", 0, "0", 4, api.ErrType},
		{data + "val v = (Nil, Item 1 Nil);", 0, "1", 4, api.ErrType},
		{data + "val v = O (fn x => if x then 1 else 2);", 0, "", 4, api.ErrType},
		// The own equation of a function is a step of its whole body, also before the next function.
		{"fun f x = (f x) + (f 1); fun g x = 1 + (f True);", 0, "1", 1, api.ErrType},
		{"fun f x = x + 1 and g x = (1, f True);", 1, "1", 0, api.ErrType},
		{"fun g x = (1, f True) and f x = x + 1;", 1, "", 0, api.ErrType},
		{"fun f x = f;", 0, "", 0, api.ErrType},
		{"fun g x = x and f x = (1, f);", 1, "", 0, api.ErrType},
		{"fun f x = f 1 + 1 and g x = if f x then 1 else 2;", 1, "", 0, api.ErrType},
		{"fun f x = g x and g x = f; val v = 1 + True;", 1, "", 0, api.ErrType},
		{"fun f x = (f 1, f True);", 0, "1", 0, api.ErrType},
		{"val v = fn f => (f 1, f True);", 0, "01", 0, api.ErrType},
		{"val v = let f = fn x => x in (f 1, f True);", 0, "11", 0, api.ErrType},
		{"fun id x = x; val f = id; val v = (f 1, f True);", 0, "1", 2, api.ErrType},
		{"input i : Int; val v = (1, i 1);", 0, "1", 1, api.ErrType},
		{"val v = fn x => fn y => (x = y, x (y 1));", 0, "0011", 0, api.ErrType},
		{"val v = 1 + True; fun f x = x x;", 0, "", 0, api.ErrType},
		{"val v = 1; fun f x = 1 + True and g x = 1 + True;", 0, "", 1, api.ErrType},
		{"output v = fn x => x; val w = 1 1;", 0, "", 0, api.ErrOutput},
	} {
		checkFault(t, c.text, program(c.text), c.place(), c.e, false)
	}
}

// P3.7: outputs with an arrow.
func TestOutputs(t *testing.T) {
	for _, c := range []fault{
		{"output o = fn x => x;", 4, api.ErrOutput},
		{"output o = (1, fn x => x);", 4, api.ErrOutput},
		{"output o = Cons (fn x => 1) Nil;", 4, api.ErrOutput},
		{"output o = O (fn x => x);", 4, api.ErrOutput},
		{"output o = Cons (1, O (fn x => x)) Nil;", 4, api.ErrOutput},
		{"data R = R (List S); data S = S (Int, Op) | End'1; output o = R Nil;", 6, api.ErrOutput},
		{"data R = R (List S) R; data S = S (Pair Int (List (Int -> Int))) | End'1; fun f x = f x; output o = R Nil (f 1);", 7, api.ErrOutput},
		{"data Q 'a = Q; data R = R (Q (Int -> Int)); output o = R Q;", 6, api.ErrOutput},
		{"data Q 'a = Q; data R 'a = R (Q 'a) 'a; output o = case R Q (fn x => x) of R q y => q end;", 6, api.ErrOutput},
		{"data Q 'a = Q; data R 'a = R (Q 'a) 'a; output o = case R Q (fn x => x) of R q y => R Q 1 end;", 6, api.OK},
		{"output o = case (fn x => x, 1) of (f, y) => f y end;", 4, api.OK},
		{"output o = Nil;", 4, api.OK},
		{"output o = Cons (P 1 True) Nil;", 4, api.OK},
		{"data R = R R (List R) | E; output o = R E Nil;", 5, api.OK},
		{"val v = O (fn x => x); output o = 1;", 4, api.OK},
	} {
		p := program(data + c.text)
		if c.e != api.OK {
			checkFault(t, c.text, p, api.Blame{Decl: c.decl}, c.e, false)
		} else if _, at, e := Infer(p); e != api.OK || !isZero(at) {
			t.Errorf("Infer of %s: %d at %v", c.text, e, at)
		}
	}
}

// doubled is an expression whose type has some power of four leaves, with a variable x in force.
func doubled(n int, rest string) string {
	text := ""
	for range n {
		text += "let x = (x, x, x, x) in "
	}
	return text + rest
}

// P3.7: names whose types get too great, and types that no name has.
func TestInferWide(t *testing.T) {
	for _, c := range []struct {
		text string
		decl int
		fun  int
		e    api.Errno
	}{
		{"fun f x = " + doubled(5, "x") + ";", 0, 0, api.OK},
		{"fun f x = " + doubled(6, "x") + ";", 0, 0, api.ErrWide},
		{"fun f x = " + doubled(40, "x") + ";", 0, 0, api.ErrWide},
		{"fun f x = " + doubled(40, "1") + "; output o = f 1;", 0, 0, api.OK},
		{"val x = 1; val v = " + doubled(5, "(x, x)") + ";", 1, 0, api.ErrWide},
		{"val x = 1; val v = " + doubled(5, "x") + ";", 1, 0, api.OK},
		{"val x = 1; output v = " + doubled(6, "x") + ";", 1, 0, api.ErrWide},
		{"val x = fn x => x; output v = " + doubled(6, "x") + ";", 1, 0, api.ErrWide},
		{"val x = fn x => x; output v = " + doubled(3, "x") + ";", 1, 0, api.ErrOutput},
		{"fun g x = x and f x = " + doubled(6, "x") + " and h x = " + doubled(6, "x") + ";", 0, 1, api.ErrWide},
		{"fun g x = x and f x = " + doubled(6, "x") + " and h x = x x;", 0, 2, api.ErrType},
		{"fun f x = " + doubled(30, "x x") + ";", 0, 0, 99},
	} {
		l, at, e := Infer(program(c.text))
		if c.e == 99 {
			if e != api.ErrType || len(at.Path) != 30 {
				t.Errorf("Infer of %s: %d at %v", c.text, e, at)
			}
			continue
		}
		if e != c.e || e != api.OK && !sameBlame(at, api.Blame{Decl: c.decl, Fun: c.fun}) || e != api.OK && len(l) > 0 {
			t.Errorf("Infer of %s: %d at %v", c.text, e, at)
		}
	}
	deep := func(n int) string {
		return data + "fun f x = " + strings.Repeat("Cons (", n) + "x" + strings.Repeat(") Nil", n) + ";"
	}
	if l, _, e := Infer(program(deep(98))); e != api.OK || Size(l[0].Scheme.Type) != 101 {
		t.Errorf("a type 100 deep: %d", e)
	}
	if _, at, e := Infer(program(deep(99))); e != api.ErrWide || !sameBlame(at, api.Blame{Decl: 4}) {
		t.Errorf("a type 101 deep: %d at %v", e, at)
	}
}

// P3.8: plain names.
func TestSource(t *testing.T) {
	for _, text := range []string{"", data, "val x = y; data A = A X | A 'b; output o = case A of B _ => fn z => let w = z in let fun f g = (1, w + 2) in f end; input i : Int -> (Int, 'a);"} {
		at, e := Source(program(text))
		errs(t, text, e, api.OK)
		if !isZero(at) {
			t.Errorf("Source of %s: %v", text, at)
		}
	}
	for _, text := range []string{
		"data A'1 = A;", "data A = A | B'1;", "data A = A X'1;", "data A = A Int (Int -> (Int, X'12));", "input i'1 : Int;", "input i : X'0;", "input i : List (X'0);",
		"fun f'1 x = x;", "fun f x'1 = x;", "fun f x = x and g'1 x = x;", "fun f x = x and g x'1 = x;", "fun f x = x and g x = x'1;", "fun f x = (1, g x'1);",
		"val x'1 = 1;", "output x'1 = 1;", "val x = y'1;", "val x = A'1;", "val x = (1, A (A'1 1));", "val x = fn y'1 => 1;", "val x = let y'1 = 1 in 1;",
		"val x = let fun f'1 y = 1 in 1;", "val x = let fun f y'1 = 1 in 1;", "val x = case 1 of y'1 => 1 end;", "val x = case 1 of _ => 1 | A'1 => 1 end;",
		"val x = case 1 of (_, A (B y'1)) => 1 end;", "output x = 1 + (2 * y'1);",
	} {
		p := program("val x = 1; " + text + " val y'1 = 1;")
		at, e := Source(p)
		errs(t, text, e, api.ErrName)
		if !sameBlame(at, api.Blame{Decl: 1}) {
			t.Errorf("Source of %s: %v", text, at)
		}
	}
}
