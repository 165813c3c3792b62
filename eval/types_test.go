package eval

import (
	"slices"
	"strings"
	"testing"

	"restitch/api"
	"restitch/syntax"
)

// library declares data types for the tests.
const library = "data List 'a = Nil | Cons 'a (List 'a); data Ints = End | Item Int Ints; data Pair 'a 'b = P 'a 'b; data Swap 'a 'b = Stop | Turn 'a (Swap 'b 'a); " +
	"data Op = O (Int -> Int) | N; data Both 'a = Two ('a, 'a) | One 'a; data Rose 'a = R 'a (List (Rose Int)); data Ghost 'a = G;"

// P6.5: which values have which types.
func TestHas(t *testing.T) {
	ds := datas(library)
	for _, c := range []struct {
		t, v string
		want bool
	}{
		{"Int", "3", true},
		{"Int", "Nil", false},
		{"Int", "(1, 2)", false},
		{"Bool", "True", true},
		{"Bool", "False", true},
		{"Bool", "Nil", false},
		{"Bool", "True 1", false},
		{"Bool", "1", false},
		{"'a", "3", true},
		{"'a", "Unknown (1, Cons)", true},
		{"Int -> Int", "3", false},
		{"'a -> 'b", "Nil", false},
		{"(Int, Bool)", "(1, True)", true},
		{"(Int, Bool)", "(True, 1)", false},
		{"(Int, Bool)", "(1, True, 2)", false},
		{"(Int, Bool, Int)", "(1, True)", false},
		{"(Int, Bool, 'a, Int)", "(1, True, Nil, 2)", true},
		{"(Int, Bool)", "1", false},
		{"(Int, Bool)", "P 1 True", false},
		{"(Int, Int -> Int)", "(1, 2)", false},
		{"List Int", "Nil", true},
		{"List Int", "Cons 1 (Cons 2 Nil)", true},
		{"List Int", "Cons 1 (Cons True Nil)", false},
		{"List Int", "Cons 1", false},
		{"List Int", "Cons 1 Nil Nil", false},
		{"List Int", "Nil 1", false},
		{"List Int", "End", false},
		{"List Int", "Item 1 End", false},
		{"List Int", "Unknown", false},
		{"List Int", "3", false},
		{"List Int", "(1, Nil)", false},
		{"List 'a", "Cons 1 (Cons True (Cons (1, Cons) Nil))", true},
		{"List (List Bool)", "Cons (Cons True Nil) (Cons Nil Nil)", true},
		{"List (List Bool)", "Cons (Cons 1 Nil) (Cons Nil Nil)", false},
		{"List (Int -> Int)", "Nil", true},
		{"List (Int -> Int)", "Cons 1 Nil", false},
		{"Ints", "Item 1 (Item 2 End)", true},
		{"Ints", "Item End End", false},
		{"Ints", "Item 1 Nil", false},
		{"Pair Int Bool", "P 1 True", true},
		{"Pair Int Bool", "P True 1", false},
		{"Pair 'b 'a", "P True 1", true},
		{"Pair (List 'a) 'a", "P 1 1", false},
		// The Args of a type that is within itself are turned round.
		{"Swap Int Bool", "Turn 1 (Turn True (Turn 2 Stop))", true},
		{"Swap Int Bool", "Turn 1 (Turn 1 Stop)", false},
		{"Swap Int Bool", "Turn True Stop", false},
		{"Swap 'a Bool", "Turn Nil (Turn True (Turn 1 Stop))", true},
		{"Swap 'a Bool", "Turn Nil (Turn Nil (Turn 1 Stop))", false},
		{"Swap 'b 'a", "Turn 1 (Turn True (Turn 2 Stop))", true},
		{"Swap (List Bool) Int", "Turn Nil (Turn 1 (Turn (Cons True Nil) Stop))", true},
		{"Swap (List Bool) Int", "Turn Nil (Turn 1 (Turn (Cons 1 Nil) Stop))", false},
		{"Op", "N", true},
		{"Op", "O 1", false},
		{"Both Int", "Two (1, 2)", true},
		{"Both Int", "Two (1, True)", false},
		{"Both Int", "Two 1", false},
		{"Both (Both Bool)", "Two (One True, Two (False, True))", true},
		{"Rose Bool", "R True (Cons (R 1 Nil) Nil)", true},
		{"Rose Bool", "R True (Cons (R True Nil) Nil)", false},
		{"Ghost (Int -> Int)", "G", true},
		{"Ghost Int", "G 1", false},
		{"Foo", "Foo", false},
		{"Foo", "Nil", false},
		// Other numbers of Args than the data type has Vars.
		{"Int'1", "1", false},
		{"List Int Int", "Cons 1 Nil", false},
		{"Ints Int", "Item 1 End", false},
	} {
		if got := Has(ds, typ(c.t), val(c.v)); got != c.want {
			t.Errorf("Has(%s, %s) = %v", c.t, c.v, got)
		}
	}
}

// P6.5: types and values that are not valid, and data types that infer.Datas does not return.
func TestHasEdges(t *testing.T) {
	ds := datas(library)
	for i, v := range badValues() {
		if Has(ds, typ("'a"), v) {
			t.Errorf("bad value %d, %s, has a type", i, short(v))
		}
	}
	for i, v := range goodValues() {
		if !Has(ds, typ("'a"), v) || !Has(nil, typ("'b"), v) {
			t.Errorf("good value %d, %s, has not the type 'a", i, short(v))
		}
	}
	deep := typ("Int")
	for range 100 {
		deep = api.Type{Name: "Ghost", Args: []api.Type{deep}}
	}
	ring := api.Type{Name: "Ghost", Args: make([]api.Type, 1)}
	ring.Args[0] = ring
	for i, u := range []api.Type{{}, {Name: "'A"}, {Name: "'"}, {Name: "'a", Args: make([]api.Type, 1)}, {Name: "Int", Args: []api.Type{typ("Int")}}, {Name: ","}, {Name: "x"}, {Name: "Ghost", Args: []api.Type{{}}}, deep, ring} {
		if Has(ds, u, num(1)) || Has(ds, u, con("G")) || Has(ds, u, pair(num(1), num(2))) {
			t.Errorf("type %d, which is not valid, has values", i)
		}
	}
	if !Has(ds, deep.Args[0], con("G")) {
		t.Error("a type of the greatest depth has no values")
	}
	if Has(nil, typ("Bool"), con("True")) || Has(nil, typ("List Int"), con("Nil")) || !Has(nil, typ("(Int, 'a)"), val("(1, 2)")) {
		t.Error("Has is wrong without data types")
	}
	twice := []api.Data{{Name: "A", Cons: []api.Con{{Name: "C", Args: []api.Type{typ("Int")}}}}, {Name: "B", Cons: []api.Con{{Name: "C"}, {Name: "D"}}}}
	if !Has(twice, typ("A"), val("C 1")) || Has(twice, typ("B"), val("C")) || Has(twice, typ("A"), val("C")) || !Has(twice, typ("B"), val("D")) {
		t.Error("a constructor of two data types is not that of the first one")
	}
	odd := []api.Data{{Name: "A", Vars: []string{"'a", "'a", "x", ""}, Cons: []api.Con{{Name: "C", Args: []api.Type{ring, {}, {Name: "A"}}}, {}}}, {}, {Cons: []api.Con{{Name: "C"}}}}
	if Has(odd, typ("A Int Int Int Int"), val("C G 1 C")) || Has(odd, typ("A"), val("C G 1 C")) {
		t.Error("data types that are none have values")
	}
}

// P6.5: the size of a field's type does not matter.
func TestHasWide(t *testing.T) {
	ds := datas("data W 'a = W ('a, 'a, 'a, 'a) | V 'a | End; data X 'a = X (W 'a) (W 'a);")
	wide := typ("W Int")
	for range 98 {
		wide = api.Type{Name: "W", Args: []api.Type{wide}}
	}
	v := con("V", con("End"))
	if !Has(ds, wide, con("W", pair(v, con("End"), v, v))) {
		t.Error("the fields of a type that is 99 deep have no values")
	}
	if Has(ds, wide, con("W", pair(v, con("V", num(1)), v, v))) {
		t.Error("the fields of a type that is 99 deep have wrong values")
	}
	tuple := typ("(Int, Int, Int, Int)")
	v = pair(num(1), num(2), num(3), num(4))
	for range 4 {
		tuple = api.Type{Name: ",", Args: []api.Type{tuple, tuple, tuple, tuple}}
		v = pair(v, v, v, v)
	}
	if !Has(ds, api.Type{Name: "W", Args: []api.Type{tuple}}, con("V", v)) || !Has(ds, api.Type{Name: "X", Args: []api.Type{tuple}}, con("X", con("V", v), con("V", v))) {
		t.Error("a type of 1365 types, in a data type, has no values")
	}
	if Has(ds, api.Type{Name: "X", Args: []api.Type{tuple}}, con("X", con("V", v), con("W", pair(v, v, num(1), v)))) {
		t.Error("a type of 1365 types, in a data type, has wrong values")
	}
}

// slowHas puts types in the place of variables.
func slowHas(ds []api.Data, t api.Type, v api.Value) bool {
	if strings.HasPrefix(t.Name, "'") {
		return true
	}
	if v.Con == "" {
		return t.Name == "Int"
	}
	fields, ok := slowFields(ds, t, v.Con)
	if !ok || len(fields) != len(v.Args) {
		return false
	}
	for i, f := range fields {
		if !slowHas(ds, f, v.Args[i]) {
			return false
		}
	}
	return true
}

func slowFields(ds []api.Data, t api.Type, name string) ([]api.Type, bool) {
	if name == "," {
		return t.Args, t.Name == ","
	}
	for _, d := range ds {
		for _, c := range d.Cons {
			if d.Name != t.Name || c.Name != name || len(d.Vars) != len(t.Args) {
				continue
			}
			var fields []api.Type
			for _, f := range c.Args {
				fields = append(fields, slowPut(f, d.Vars, t.Args))
			}
			return fields, true
		}
	}
	return nil, false
}

func slowPut(t api.Type, vars []string, args []api.Type) api.Type {
	if i := slices.Index(vars, t.Name); i >= 0 {
		return args[i]
	}
	result := api.Type{Name: t.Name}
	for _, a := range t.Args {
		result.Args = append(result.Args, slowPut(a, vars, args))
	}
	return result
}

// typ makes a type of the library.
func (d dice) typ(deep int) api.Type {
	simple := []string{"Int", "Int", "Bool", "Ints", "Op", "'a", "'b"}
	if deep == 0 || d.IntN(3) == 0 {
		return typ(pick(d, simple))
	}
	t := api.Type{Name: pick(d, []string{"List", "Pair", "Swap", "Both", "Rose", "Ghost", ","})}
	args := 1
	if t.Name == "Pair" || t.Name == "Swap" || t.Name == "," {
		args = 2
	}
	for range args {
		t.Args = append(t.Args, d.typ(deep-1))
	}
	return t
}

// valueOf makes a value that has a type, as far as there is one.
func (d dice) valueOf(ds []api.Data, t api.Type, deep int) api.Value {
	if t.Name == "Int" || strings.HasPrefix(t.Name, "'") || t.Name == "->" {
		return num(d.IntN(5))
	}
	names := []string{","}
	for _, data := range ds {
		if data.Name == t.Name {
			names = nil
			for _, c := range data.Cons {
				names = append(names, c.Name)
			}
		}
	}
	name := pick(d, names)
	if deep <= 0 {
		name = names[0]
	}
	v := con(name)
	fields, _ := slowFields(ds, t, name)
	for _, f := range fields {
		v.Args = append(v.Args, d.valueOf(ds, f, deep-1))
	}
	return v
}

// P6.5: types of random values are those of a slow reading.
func TestHasSlow(t *testing.T) {
	d, ds := newDice(5), datas(library)
	yes, no := 0, 0
	for range 20000 {
		u := d.typ(3)
		v := d.valueOf(ds, u, 4)
		if d.IntN(2) == 0 {
			v = replaced(v, pick(d, paths(v, nil)), d.valueOf(ds, d.typ(1), 1))
		}
		want := slowHas(ds, u, v)
		if got := Has(ds, u, v); got != want {
			t.Fatalf("Has(%v, %s) = %v", u, show(v), got)
		}
		if want {
			yes++
		} else {
			no++
		}
	}
	if yes < 5000 || no < 3000 {
		t.Errorf("%d have their types, %d have not", yes, no)
	}
}

// P6.5: the inputs of a program.
func TestInputs(t *testing.T) {
	for text, want := range map[string]string{
		"":                          "",
		"output o = 1; data A = A;": "",
		"input i : Int;":            "i: Int",
		"input b : Foo 'a -> Int; val x = y; input a : (Bool Int, 'b); input b : 'x;": "b: Foo 'a -> Int; a: ( Bool Int , 'b ); b: 'x",
		"data A = B C; data A = A Int Int; input i : List Int;":                       "i: List Int",
	} {
		l, e := Inputs(program(text))
		errs(t, text, e, api.OK)
		var found []string
		for _, n := range l {
			u, _ := syntax.PrintType(n.Scheme.Type)
			found = append(found, n.Name+": "+u)
			if len(n.Scheme.Vars) > 0 {
				t.Errorf("%s: the scheme of %s has Vars", text, n.Name)
			}
		}
		texts(t, text, strings.Join(found, "; "), want)
	}
	shared := []api.Type{typ("Int")}
	u := api.Type{Name: "List", Args: shared}
	p := api.Program{Decls: []api.Decl{{Kind: api.DInput, Name: "i", Type: u}, {Kind: api.DInput, Name: "j", Type: u}}}
	l, e := Inputs(p)
	errs(t, "inputs", e, api.OK)
	l[0].Scheme.Type.Args[0].Name = "Smear"
	if shared[0].Name != "Int" || l[1].Scheme.Type.Args[0].Name != "Int" {
		t.Error("types of inputs share memory")
	}
	for i, c := range badPrograms() {
		if l, e := Inputs(c.p); e != c.e || len(l) > 0 {
			t.Errorf("bad program %d: %v, error %d, expected %d", i, l, e, c.e)
		}
	}
}

// badProgram is a program that is not well formed, with its error.
type badProgram struct {
	p api.Program
	e api.Errno
}

func badPrograms() []badProgram {
	decls := func(l ...api.Decl) api.Program { return api.Program{Decls: l} }
	output := func(e api.Expr) api.Program { return decls(api.Decl{Kind: api.DOutput, Name: "o", Body: e}) }
	ring := api.Expr{Kind: api.EApp, Args: make([]api.Expr, 2)}
	ring.Args[0], ring.Args[1] = ring, ring
	vast := api.Expr{Kind: api.ENum}
	for range 60 {
		vast = api.Expr{Kind: api.EApp, Args: []api.Expr{vast, vast}}
	}
	i := api.Decl{Kind: api.DInput, Name: "i", Type: typ("Int")}
	return []badProgram{
		{output(ring), api.ErrDeep},
		{output(vast), api.ErrLong},
		{decls(slices.Repeat([]api.Decl{i}, 61)...), api.ErrLong},
		{decls(api.Decl{}), api.ErrShape},
		{decls(i, api.Decl{Kind: api.DInput, Name: "I", Type: typ("Int")}), api.ErrShape},
		{decls(i, api.Decl{Kind: api.DInput, Name: "j", Type: api.Type{Name: "->"}}), api.ErrShape},
		{output(api.Expr{}), api.ErrShape},
		{output(api.Expr{Kind: api.EOp, Name: "<=", Args: make([]api.Expr, 2)}), api.ErrShape},
		{output(api.Expr{Kind: api.ECase, Args: make([]api.Expr, 1)}), api.ErrShape},
	}
}

// inputs reads values by their names: "i = 3; l = Nil".
func inputs(text string) (l []api.NamedValue) {
	if text == "" {
		return nil
	}
	for _, one := range strings.Split(text, "; ") {
		name, v, _ := strings.Cut(one, " = ")
		l = append(l, api.NamedValue{Name: name, Value: val(v)})
	}
	return l
}

// P6.5: values that are inputs of a program, or are not.
func TestCheckInput(t *testing.T) {
	for _, c := range []struct {
		text, in string
		e        api.Errno
	}{
		{"", "", api.OK},
		{"output o = x;", "", api.OK},
		{"", "i = 3", api.ErrInputs},
		{"input i : Int;", "i = 3", api.OK},
		{"input i : Int;", "", api.ErrInputs},
		{"input i : Int;", "j = 3", api.ErrInputs},
		{"input i : Int;", "i = 3; i = 3", api.ErrInputs},
		{"input i : Int;", "i = True", api.ErrInputs},
		{"input i : Int; input j : Bool;", "i = 3; j = True", api.OK},
		{"input i : Int; input j : Bool;", "j = True; i = 3", api.ErrInputs},
		{"input i : Int; input j : Bool;", "i = 3", api.ErrInputs},
		{"input i : Int; input j : Int;", "j = 3; i = 3", api.ErrInputs},
		{"input i : Int; input i : Bool;", "i = 3; i = True", api.OK},
		{library + "input i : Ints;", "i = Item 3 (Item 4 End)", api.OK},
		{library + "input i : Ints;", "i = Item 3 (Item True End)", api.ErrInputs},
		{library + "input i : List Bool;", "i = Cons True Nil", api.OK},
		{library + "input i : List Bool;", "i = Cons 1 Nil", api.ErrInputs},
		{library + "input i : List Int Int;", "i = Nil", api.ErrInputs},
		{"input i : 'a;", "i = Foo (1, Bar)", api.OK},
		{"input i : (Int, Bool);", "i = (3, True)", api.OK},
		{"input i : Int -> Int;", "i = 3", api.ErrInputs},
		{"input i : Int Int;", "i = 3", api.ErrInputs},
		{"input i : Foo;", "i = Foo", api.ErrInputs},
		{"input i : A; data A = B | C A;", "i = C (C B)", api.OK},
		// The rules of data types come first; those of names, and of inputs, do not matter.
		{"data A = B | B; input i : Int;", "i = True", api.ErrTwice},
		{"data A = B C; input i : Int;", "", api.ErrName},
		{"data A = B (Int Int);", "", api.ErrCount},
		{"data A 'a = B (A (A 'a));", "", api.ErrWide},
		{"val x = 1; val x = y; output o = A; input i : Int;", "i = 1", api.OK},
	} {
		p, in := program(c.text), inputs(c.in)
		errs(t, c.text+" with "+c.in, CheckInput(p, in), c.e)
		o, e := Run(p, in, -1)
		if e != api.ErrArg || !same(o, api.Outcome{}) {
			t.Errorf("Run of %s with a negative fuel: error %d", c.text, e)
		}
		if o, e := Run(p, in, 9); c.e != api.OK && (e != c.e || !same(o, api.Outcome{})) {
			t.Errorf("Run of %s with %s: %s, error %d", c.text, c.in, showOutcome(o), e)
		}
	}
	for i, c := range badPrograms() {
		errs(t, i, CheckInput(c.p, inputs("i = 1")), c.e)
		if o, e := Run(c.p, nil, 9); e != c.e || !same(o, api.Outcome{}) {
			t.Errorf("Run of bad program %d: %s, error %d", i, showOutcome(o), e)
		}
		if _, e := Run(c.p, nil, 200001); e != api.ErrArg {
			t.Errorf("Run of bad program %d with too much fuel: error %d", i, e)
		}
	}
	any := program("input i : 'a;")
	for i, v := range badValues() {
		errs(t, i, CheckInput(any, []api.NamedValue{{Name: "i", Value: v}}), api.ErrInputs)
	}
	for i, v := range goodValues() {
		errs(t, i, CheckInput(any, []api.NamedValue{{Name: "i", Value: v}}), api.OK)
	}
	errs(t, "many values", CheckInput(any, make([]api.NamedValue, 100000)), api.ErrInputs)
}
