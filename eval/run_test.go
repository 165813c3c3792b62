package eval

import (
	"reflect"
	"strings"
	"testing"

	"restitch/api"
	"restitch/lex"
)

// P6.6: what operators make of two integers.
func TestOp(t *testing.T) {
	most, least := 1<<63-1, -1<<63
	for _, c := range []struct {
		name string
		a, b int
		want string
	}{
		{"+", 2, 3, "5"}, {"+", most, 1, "-9223372036854775808"}, {"+", least, least, "0"},
		{"-", 2, 3, "-1"}, {"-", least, 1, "9223372036854775807"}, {"-", 0, least, "-9223372036854775808"},
		{"*", -4, 3, "-12"}, {"*", 1 << 32, 1 << 32, "0"}, {"*", 1 << 62, 2, "-9223372036854775808"}, {"*", least, -1, "-9223372036854775808"}, {"*", most, most, "1"},
		{"/", 7, 2, "3"}, {"/", -7, 2, "-3"}, {"/", 7, -2, "-3"}, {"/", -7, -2, "3"}, {"/", 5, 0, "0"}, {"/", 0, 0, "0"}, {"/", least, -1, "-9223372036854775808"}, {"/", least, 0, "0"},
		{"%", 7, 2, "1"}, {"%", -7, 2, "-1"}, {"%", 7, -2, "1"}, {"%", -7, -2, "-1"}, {"%", 5, 0, "0"}, {"%", least, -1, "0"}, {"%", least, 0, "0"},
		{"<", 1, 2, "True"}, {"<", 2, 2, "False"}, {"<", 3, 2, "False"}, {"<", least, most, "True"}, {"<", most, least, "False"},
		{"=", 1, 2, "False"}, {"=", 2, 2, "True"}, {"=", least, least, "True"}, {"=", least, most, "False"},
	} {
		got, e := Op(c.name, c.a, c.b)
		errs(t, c.name, e, api.OK)
		if show(got) != c.want || !same(got, slowOp(c.name, c.a, c.b)) {
			t.Errorf("Op(%s, %d, %d) = %s, expected %s", c.name, c.a, c.b, show(got), c.want)
		}
	}
	for _, name := range []string{"", "++", "=>", "<=", ">", "==", "&", ",", "x", " +", "+ ", "~", "->"} {
		if got, e := Op(name, 1, 2); e != api.ErrArg || !same(got, api.Value{}) {
			t.Errorf("Op(%q) = %s, error %d", name, show(got), e)
		}
	}
	d := newDice(66)
	for range 20000 {
		name, a, b := pick(d, operators()), int(d.Uint64()>>d.IntN(64)), int(d.Uint64()>>d.IntN(64))
		if got, e := Op(name, a, b); e != api.OK || !same(got, slowOp(name, a, b)) {
			t.Fatalf("Op(%s, %d, %d) = %s, error %d", name, a, b, show(got), e)
		}
	}
}

// P6.6: which patterns match which values.
func TestMatches(t *testing.T) {
	for _, c := range []struct {
		p, v string
		ok   bool
		want string
	}{
		{"_", "3", true, ""},
		{"_", "(1, Nil)", true, ""},
		{"x", "3", true, "x = 3"},
		{"x", "Cons 1 Nil", true, "x = Cons[1 Nil]"},
		{"Nil", "Nil", true, ""},
		{"Nil", "Cons", false, ""},
		{"Nil", "3", false, ""},
		{"Nil", "Nil 1", false, ""},
		{"Nil", "(1, 2)", false, ""},
		{"Cons x", "Cons", false, ""},
		{"Cons x", "Cons 1", true, "x = 1"},
		{"Cons x y", "Cons 1 Nil", true, "x = 1; y = Nil"},
		{"Cons x y", "Cons 1", false, ""},
		{"Cons x (Cons y Nil)", "Cons 1 (Cons (2, 3) Nil)", true, "x = 1; y = ,[2 3]"},
		{"Cons x (Cons y Nil)", "Cons 1 (Cons 2 (Cons 3 Nil))", false, ""},
		{"(x, y)", "(1, 2)", true, "x = 1; y = 2"},
		{"(x, y)", "(1, 2, 3)", false, ""},
		{"(x, y, z)", "(1, 2)", false, ""},
		{"(x, _, y, A)", "(1, 2, 3, A)", true, "x = 1; y = 3"},
		{"(x, y)", "Pair 1 2", false, ""},
		{"(x, (y, A x))", "(1, (2, A 3))", true, "x = 1; y = 2; x = 3"},
		{"(x, x)", "(1, 2)", true, "x = 1; x = 2"},
		{"(y, (x, y))", "(1, (2, 3))", true, "y = 1; x = 2; y = 3"},
		{"A'1 x", "A'1 5", true, "x = 5"},
		{"A x", "A'1 5", false, ""},
	} {
		l, ok := Matches(pat(c.p), val(c.v))
		if ok != c.ok || showAll(l) != c.want {
			t.Errorf("Matches(%s, %s) = %s, %v", c.p, c.v, showAll(l), ok)
		}
	}
}

// badPats are patterns that are not well formed.
func badPats() []api.Pat {
	ring := api.Pat{Kind: api.PCon, Name: ",", Args: make([]api.Pat, 2)}
	ring.Args[0], ring.Args[1] = ring, ring
	deep, vast := api.Pat{Kind: api.PWild}, api.Pat{Kind: api.PWild}
	for range 100 {
		deep = api.Pat{Kind: api.PCon, Name: "Some", Args: []api.Pat{deep}}
		vast = api.Pat{Kind: api.PCon, Name: ",", Args: []api.Pat{vast, vast}}
	}
	return []api.Pat{
		{}, {Kind: 4}, {Kind: api.PWild, Name: "x"}, {Kind: api.PWild, Args: make([]api.Pat, 1)}, {Kind: api.PVar}, {Kind: api.PVar, Name: "X"}, {Kind: api.PVar, Name: "fn"},
		{Kind: api.PVar, Name: "x", Args: []api.Pat{pat("x")}}, {Kind: api.PCon}, {Kind: api.PCon, Name: "x"}, {Kind: api.PCon, Name: ","}, {Kind: api.PCon, Name: "^"},
		{Kind: api.PCon, Name: ",", Args: []api.Pat{pat("x"), {}}}, {Kind: api.PCon, Name: "C", Args: make([]api.Pat, 17)}, ring, deep, vast,
	}
}

// P6.6: values that are not valid, and patterns that are not well formed.
func TestMatchesEdges(t *testing.T) {
	for i, p := range badPats() {
		for _, v := range []api.Value{num(1), con("x"), {}, pair(num(1), num(2)), nested(4000), vast(10)} {
			if l, ok := Matches(p, v); ok || len(l) > 0 {
				t.Errorf("bad pattern %d matches %s", i, short(v))
			}
		}
	}
	for i, v := range badValues() {
		if l, ok := Matches(pat("x"), v); ok || len(l) > 0 {
			t.Errorf("bad value %d, %s, is matched", i, short(v))
		}
	}
	for i, v := range goodValues() {
		if l, ok := Matches(pat("x"), v); !ok || len(l) != 1 || !same(l[0].Value, v) {
			t.Errorf("good value %d, %s, is not matched", i, short(v))
		}
	}
}

// P6.6: the variables of a pattern match the parts at their places.
func TestMatchesSlow(t *testing.T) {
	d := newDice(16)
	yes, no := 0, 0
	for range 20000 {
		v := d.value(4)
		p := d.fitting(v, 4)
		env := map[string]any{}
		want := slowMatch(p, slowInput(v), env)
		l, ok := Matches(p, v)
		if ok != want || !ok && len(l) > 0 || ok && !same(l, bindings(p, v)) {
			t.Fatalf("Matches(%v, %s) = %s, %v", p, show(v), showAll(l), ok)
		}
		if !ok {
			no++
			continue
		}
		yes++
		last := map[string]any{}
		for _, n := range l {
			last[n.Name] = slowInput(n.Value)
		}
		if !reflect.DeepEqual(last, env) {
			t.Fatalf("Matches(%v, %s) = %s, expected %v", p, show(v), showAll(l), env)
		}
	}
	if yes < 5000 || no < 2000 {
		t.Errorf("%d match, %d do not", yes, no)
	}
}

// bindings returns the parts of a value that variables of a pattern match, each found by its path.
func bindings(p api.Pat, v api.Value) (l []api.NamedValue) {
	var walk func(p api.Pat, path []int)
	walk = func(p api.Pat, path []int) {
		if p.Kind == api.PVar {
			part, _ := Part(v, path)
			l = append(l, api.NamedValue{Name: p.Name, Value: part})
		}
		for i, a := range p.Args {
			walk(a, append(path[:len(path):len(path)], i))
		}
	}
	walk(p, nil)
	return l
}

// P6.7: programs, with their outputs and steps.
func TestRun(t *testing.T) {
	for _, c := range []struct{ text, in, want string }{
		{"", "", " after 0"},
		{"input i : Int; fun f x = y; data A = A;", "i = 1", " after 0"},
		{"output o = 1 + 2;", "", "o = 3 after 3"},
		{"fun id x = x; output o = id (id 5);", "", "o = 5 after 7"},
		{"input i : Int; val d = i + i; output o = d * d;", "i = 3", "o = 36 after 6"},
		{"output a = 1; val x = 2; output b = x; output a = (x, x);", "", "a = 1; b = 2; a = ,[2 2] after 6"},
		{"data Ints = End | Item Int Ints; input l : Ints; fun sum l = case l of End => 0 | Item h t => h + sum t end; output total = sum l;", "l = Item 3 (Item 4 End)", "total = 7 after 20"},
		{"output o = ~7 / 2 + ~7 % 2 * 10;", "", "o = -13 after 9"},
		{"output o = (1 < 2, 2 < 1, 1 = 1, 1 = 2);", "", "o = ,[True False True False] after 13"},
		{"output o = 9223372036854775807 + 1;", "", "o = -9223372036854775808 after 3"},
		{"output o = (5 / 0, 5 % 0);", "", "o = ,[0 0] after 7"},
		{"output o = if 1 < 2 then 10 else 1 2;", "", "o = 10 after 5"},
		// Constructors have whatever fields they have.
		{"output o = Foo (Nil 1 2) True;", "", "o = Foo[Nil[1 2] True] after 5"},
		{"data L = Nil; output o = case Nil 3 of Nil => 1 | Nil x => x end;", "", "o = 3 after 4"},
		{"output o = case (1, 2) of (a, b, c) => 1 | (a, b) => b end;", "", "o = 2 after 5"},
		{"output o = case (fn x => x, 7) of (f, n) => f n end;", "", "o = 7 after 8"},
		{"output o = case fn x => x of Nil => 1 | _ => 2 end;", "", "o = 2 after 3"},
		{"output o = case fn x => x of Nil => 1 | f => f 3 end;", "", "o = 3 after 6"},
		{"output o = case 3 of Nil => 1 | n => n end;", "", "o = 3 after 3"},
		{"output o = case (1, (2, 3)) of (x, (y, x)) => (x, y) end;", "", "o = ,[3 2] after 9"},
		{"output o = case (1, 2) of (x, x) => x end;", "", "o = 2 after 5"},
		{"output o = let x = 1 in case (2, 3) of (y, _) => x end;", "", "o = 1 after 7"},
		// What is bound inside hides what is outside, and is gone behind it.
		{"output o = let x = 1 in (let x = x + 1 in x * 10) + x;", "", "o = 21 after 11"},
		{"output o = let x = 1 in let f = fn y => x + y in let x = 10 in f 5;", "", "o = 6 after 12"},
		{"output o = let fun f n = if n = 0 then 0 else 2 + f (n - 1) in f 3;", "", "o = 6 after 42"},
		{"output o = let f = fn x => 7 in let fun f f = f in f 3;", "", "o = 3 after 7"},
		{"output o = let f = 5 in let fun g f = f + 1 in g f;", "", "o = 6 after 9"},
		{"output o = (fn x => fn x => x) 1 2;", "", "o = 2 after 7"},
		{"output o = (fn x => fn y => x) 1 2;", "", "o = 1 after 7"},
		{"input x : Int; fun f x = x; output o = f 2 + x;", "x = 40", "o = 42 after 6"},
		// Functions see functions alone; others what is before them.
		{"fun f x = case x of g => g 1 end; output o = f (fn y => y + 1);", "", "o = 2 after 11"},
		{"fun f x = 1; fun g x = f x; fun f x = 2; output o = (f 0, g 0);", "", "o = ,[2 1] after 12"},
		{"fun f x = 1; val f = 3; fun g x = f x; output o = (f, g 0);", "", "o = ,[3 1] after 10"},
		{"val f = 3; fun f x = 1; output o = f 0;", "", "o = 1 after 5"},
		{"val x = 1; val x = x + 1; output x = 100; output o = x;", "", "x = 100; o = 2 after 6"},
		{"input x : Int; input x : Int; output o = x;", "x = 1; x = 2", "o = 2 after 1"},
		{"val y = 1; input x : Int; val x = 5; output o = x + y;", "x = 1", "o = 6 after 5"},
		{"fun f x = 1 and g x = f x and f x = 2; output o = (f 0, g 0);", "", "o = ,[2 2] after 12"},
		{"fun even n = if n = 0 then True else odd (n - 1) and odd n = if n = 0 then False else even (n - 1); output o = (even 4, odd 4);", "", "o = ,[True False] after 89"},
		{"fun f f = f; output o = f 3;", "", "o = 3 after 4"},
	} {
		o, e := Run(program(c.text), inputs(c.in), 200)
		errs(t, c.text, e, api.OK)
		texts(t, c.text, showOutcome(o), c.want)
	}
}

// doubled is the beginning of programs that make values of 2 to the power of n values, less one.
const doubled = "fun tree n = if n = 1 then 5 else let t = tree (n - 1) in (t, t); "

// P6.7: errors that occur in a run: the first one is returned.
func TestRunErrors(t *testing.T) {
	for _, c := range []struct {
		text string
		e    api.Errno
	}{
		{"output o = case 1 of Nil => 2 end;", api.ErrMatch},
		{"output o = case Nil of Nil x => 2 end;", api.ErrMatch},
		{"output o = case (1, 2) of (Nil, _) => 2 | (_, Nil) => 3 end;", api.ErrMatch},
		{"output o = case fn x => x of Nil => 2 end;", api.ErrMatch},
		{"output o = case fn x => x of (a, b) => 2 end;", api.ErrMatch},
		{"output o = if 1 then 2 else 3;", api.ErrMatch},
		{"output o = 1 2;", api.ErrStuck},
		{"output o = Nil 2 + 1;", api.ErrStuck},
		{"output o = (Nil) 2;", api.ErrStuck},
		{"output o = (1, 2) 3;", api.ErrStuck},
		{"output o = fn x => x;", api.ErrStuck},
		{"output o = (1, Cons 2 (fn x => x));", api.ErrStuck},
		{"output o = x;", api.ErrStuck},
		{"output o = let x = x in 1;", api.ErrStuck},
		{"output o = (let x = 1 in x) + x;", api.ErrStuck},
		{"output o = (case 1 of y => 1 end) + y;", api.ErrStuck},
		{"output o = (fn x => 1) 1 + x;", api.ErrStuck},
		{"output o = (let fun f x = x in 1) + f 1;", api.ErrStuck},
		{"output o = let fun f x = x in x;", api.ErrStuck},
		{"val x = y; val y = 1;", api.ErrStuck},
		{"output a = 1; output o = a;", api.ErrStuck},
		{"output o = o;", api.ErrStuck},
		{"output o = f 1; fun f x = x;", api.ErrStuck},
		{"val v = 1; fun f x = v; output o = f 1;", api.ErrStuck},
		{"fun f x = g x; fun g x = x; output o = f 1;", api.ErrStuck},
		{"fun f x = 1; fun g x = y; output o = g 1;", api.ErrStuck},
		{"output o = 1 + Nil;", api.ErrStuck},
		{"output o = (fn x => x) + 1;", api.ErrStuck},
		{"output o = (1, 2) < 3;", api.ErrStuck},
		{"output o = 1 = True;", api.ErrStuck},
		{"fun f x = f x; output o = f 1;", api.ErrFuel},
		// Both Args are evaluated before it is asked what they are.
		{"fun f x = f x; output o = 1 (f 1);", api.ErrFuel},
		{"fun f x = f x; output o = Nil + f 1;", api.ErrFuel},
		{"output o = 1 (case 1 of Nil => 1 end);", api.ErrMatch},
		{"output o = Nil + (case 1 of Nil => 1 end);", api.ErrMatch},
		{"output o = (case 1 of Nil => 1 end) + x;", api.ErrMatch},
		{"output o = x + (case 1 of Nil => 1 end);", api.ErrStuck},
		{"output o = A (case 1 of Nil => 1 end) x;", api.ErrMatch},
		{"output o = A x (case 1 of Nil => 1 end);", api.ErrStuck},
		// An output is gone through before the next one is evaluated.
		{"output a = fn x => x; output b = case 1 of Nil => 1 end;", api.ErrStuck},
		{"val a = fn x => x; output b = case 1 of Nil => 1 end;", api.ErrMatch},
		{doubled + "output a = tree 12; output b = x;", api.ErrLarge},
		{doubled + "val a = tree 12; output b = x;", api.ErrStuck},
		{doubled + "output a = tree 11;", api.OK},
		{doubled + "output a = tree 12;", api.ErrLarge},
		{doubled + "output a = tree 60;", api.ErrLarge},
		{doubled + "output a = (fn x => x, tree 60);", api.ErrStuck},
		{doubled + "output a = (tree 60, fn x => x);", api.ErrLarge},
	} {
		o, e := Run(program(c.text), nil, 5000)
		errs(t, c.text, e, c.e)
		if e != api.OK && !same(o, api.Outcome{}) {
			t.Errorf("%s: %s with an error", c.text, showOutcome(o))
		}
	}
}

// P6.7: an output of just as many values as there may be.
func TestRunLarge(t *testing.T) {
	count := "fun list n = fn e => if n = 0 then e else Cons n (list (n - 1) e); "
	for _, c := range []struct {
		body string
		size int
		e    api.Errno
	}{
		{"list 1999 Nil", 3999, api.OK},
		{"list 1999 (A 1)", 4000, api.OK},
		{"list 1999 (fn x => x)", 0, api.ErrStuck},
		{"list 1999 (A (fn x => x))", 0, api.ErrStuck},
		{"list 1999 (A 1 2)", 0, api.ErrLarge},
		{"list 1999 (A 1 (fn x => x))", 0, api.ErrLarge},
		{"list 1999 (A (fn x => x) 1)", 0, api.ErrStuck},
		{"A (list 1999 Nil)", 4000, api.OK},
		{"A (list 1999 Nil) (fn x => x)", 0, api.ErrLarge},
		{"A (fn x => x) (list 4000 Nil)", 0, api.ErrStuck},
		{"list 5000 Nil", 0, api.ErrLarge},
		{"let l = list 5000 Nil in 1", 1, api.OK},
		{"case list 5000 Nil of Cons a b => a end", 1, api.OK},
	} {
		o, e := Run(program(count+"output o = "+c.body+";"), nil, api.MaxFuel)
		errs(t, c.body, e, c.e)
		if e == api.OK && Size(o.Outputs[0].Value) != c.size {
			t.Errorf("%s has %d values, expected %d", c.body, Size(o.Outputs[0].Value), c.size)
		}
	}
}

// P6.7: fuel, and recursion as deep as it allows.
func TestRunFuel(t *testing.T) {
	p := program("output o = 1 + 2;")
	for _, c := range []struct {
		fuel int
		e    api.Errno
	}{
		{-1, api.ErrArg}, {-1 << 63, api.ErrArg}, {200001, api.ErrArg}, {1<<63 - 1, api.ErrArg},
		{0, api.ErrFuel}, {1, api.ErrFuel}, {2, api.ErrFuel}, {3, api.OK}, {4, api.OK}, {200000, api.OK},
	} {
		o, e := Run(p, nil, c.fuel)
		errs(t, c.fuel, e, c.e)
		if want := map[bool]string{true: "o = 3 after 3", false: " after 0"}[e == api.OK]; showOutcome(o) != want {
			t.Errorf("with the fuel %d: %s", c.fuel, showOutcome(o))
		}
	}
	if o, e := Run(program("fun f x = f x;"), nil, 0); e != api.OK || o.Steps != 0 {
		t.Errorf("no step: %s, error %d", showOutcome(o), e)
	}
	deep := strings.Repeat("(", 90) + "f x" + strings.Repeat(" + 1)", 90)
	for text, want := range map[string]api.Errno{
		"fun f x = f x; output o = f 1;":                                        api.ErrFuel,
		"fun f x = 1 + f x; output o = f 1;":                                    api.ErrFuel,
		"fun f x = " + deep + "; output o = f 1;":                               api.ErrFuel,
		"fun f x = Cons 1 (f x); output o = f 1;":                               api.ErrFuel,
		"fun f x = f (f x); output o = f 1;":                                    api.ErrFuel,
		"fun f x = f x 1; output o = f 1;":                                      api.ErrFuel,
		"fun f x = case f x of Nil => 1 end; output o = f 1;":                   api.ErrFuel,
		"fun f x = let y = f x in y; output o = f 1;":                           api.ErrFuel,
		"val o = (fn x => x x) (fn x => x x);":                                  api.ErrFuel,
		"fun f n = if n = 0 then 0 else f (n - 1); output o = f 15000;":         api.OK,
		"fun f n = if n = 0 then Nil else Cons 1 (f (n - 1)); val v = f 12000;": api.OK,
	} {
		_, e := Run(program(text), nil, api.MaxFuel)
		errs(t, text, e, want)
	}
}

// P6.7: a pattern with many variables, in each of very many calls.
func TestRunManyVariables(t *testing.T) {
	var pats []string
	for i := range 14 {
		one := "(C"
		for k := range 14 {
			one += " v" + lex.Digits(i) + "_" + lex.Digits(k)
		}
		pats = append(pats, one+")")
	}
	text := "val c = C" + strings.Repeat(" 1", 14) + "; val d = C" + strings.Repeat(" c", 14) + ";" +
		"fun f x = fn n => if n = 0 then 0 else case x of C " + strings.Join(pats, " ") + " => f x (n - v2_3) + v0_0 end; output o = f d 10000;"
	o, e := Run(program(text), nil, api.MaxFuel)
	errs(t, "many variables", e, api.OK)
	if e == api.OK && !same(o.Outputs[0].Value, num(10000)) {
		t.Errorf("many variables: %s", showOutcome(o))
	}
}
