package derive

import (
	"slices"
	"strconv"
	"strings"
	"testing"

	"restitch/api"
	"restitch/infer"
)

const example = "fun id x = x; val n = id 3; output m = id (id n);"

// P4.1: the examples of the chapter.
func TestExamples(t *testing.T) {
	p := program(example)
	d := derived(p)
	if got := showNamed(d.Schemes); got != "id: 'a . 'a -> 'a; n: . Int; m: . Int" {
		t.Errorf("Schemes: %s", got)
	}
	id := d.Bodies[0]
	if v := id.Type.Args[0].Name; showTyped(id) != v+" -> "+v+" {"+v+"} ["+v+"]" || len(infer.Vars(id.Type)) != 1 {
		t.Errorf("id: %s", showTyped(id))
	}
	if got := showTyped(d.Bodies[1]); got != "Int [Int [Int -> Int {Int}; Int]]" {
		t.Errorf("n: %s", got)
	}
	uses, e := Uses(p, d)
	if got := showUses(uses); got != "1 0 0 id Int; 2 0 0 id Int; 2 0 1 0 id Int" || e != api.OK {
		t.Errorf("Uses: %s, %d", got, e)
	}
	d.Bodies[1].Args[0].Args[1].Type.Name = "Bool"
	if at, e := Check(p, d); e != api.ErrStep || !sameBlame(at, api.Blame{Decl: 1}) {
		t.Errorf("Check: %d at %v", e, at)
	}
}

func showUses(l []api.Use) string {
	var texts []string
	for _, u := range l {
		words := []string{strconv.Itoa(u.At.Decl), strconv.Itoa(u.At.Fun)}
		for _, i := range u.At.Path {
			words = append(words, strconv.Itoa(i))
		}
		texts = append(texts, strings.Join(append(words, u.Name, showAll(u.Inst)), " "))
	}
	return strings.Join(texts, "; ")
}

// P4.1: what Derive finds. The variables have the names that it gives them.
func TestDerive(t *testing.T) {
	for text, want := range map[string]string{
		"":                                   "",
		"data A = B; input i : A;":           "i: . A",
		"output o = 1 < 2;":                  "o: . Bool\n  Bool [Bool [Int; Int]]",
		"fun k x = fn y => x;":               "k: 'a 'b . 'a -> 'b -> 'a\n  't0 -> 't1 -> 't0 {'t0, 't1} ['t1 -> 't0 ['t0]]",
		"val f = fn x => x;":                 "f: . Int -> Int\n  Int -> Int [Int -> Int [Int]]",
		"output o = let f = fn x => x in 1;": "o: . Int\n  Int [Int ['t0 -> 't0 ['t0]; Int]]",
		"val f = let g = fn x => x in fn y => y;":  "f: . Int -> Int\n  Int -> Int [Int -> Int ['t0 -> 't0 ['t0]; Int -> Int [Int]]]",
		"val f = (fn x => fn y => y) (fn z => z);": "f: . Int -> Int\n  Int -> Int [Int -> Int [('t0 -> 't0) -> Int -> Int [Int -> Int [Int]]; 't0 -> 't0 ['t0]]]",
		"input i : Int; val v = i; output o = v;":  "i: . Int; v: . Int; o: . Int\n  Int [Int]\n  Int [Int]",
		"fun f x = f x;":                       "f: 'a 'b . 'a -> 'b\n  't0 -> 't1 {'t0, 't1} ['t1 ['t0 -> 't1; 't0]]",
		"fun f x = g x and g y = 1;":           "f: 'a . 'a -> Int; g: 'a . 'a -> Int\n  't0 -> Int {'t0} [Int ['t0 -> Int; 't0]]\n  't0 -> Int {'t0} [Int]",
		"fun f x = g 1 and g y = f y;":         "f: 'a . Int -> 'a; g: 'a . Int -> 'a\n  Int -> 't0 {'t0} ['t0 [Int -> 't0; Int]]\n  Int -> 't0 {'t0} ['t0 [Int -> 't0; Int]]",
		"fun f x = let fun g y = x in g;":      "f: 'a 'b . 'a -> 'b -> 'a\n  't0 -> 't1 -> 't0 {'t0, 't1} ['t1 -> 't0 {'t1 -> 't0} ['t0; 't1 -> 't0]]",
		"fun f p = case p of (x, _) => x end;": "f: 'a 'b . ('a, 'b) -> 'a\n  ('t0, 't1) -> 't0 {'t0, 't1} ['t0 [('t0, 't1); 't0]]",
	} {
		d, e := Derive(program(text))
		errs(t, text, e, api.OK)
		if got := showDerivation(d); got != want {
			t.Errorf("Derive of %s: %s\nexpected %s", text, got, want)
		}
	}
}

// P4.1: the errors of Derive are those of infer.Infer.
func TestDeriveErrors(t *testing.T) {
	for text, want := range map[string]api.Errno{
		"fun f x = x x;":          api.ErrType,
		"val x = y;":              api.ErrName,
		"data A = A; data A = B;": api.ErrTwice,
		"data A = B (Int -> Int); output o = B (fn x => x);": api.ErrOutput,
		"input i : Bool;":           api.ErrInType,
		"data A 'a = B (A (A 'a));": api.ErrWide,
		"output o = True + 1;":      api.ErrType,
		"fun p x = (x, x); fun q x = p (p (p (p (p (p (p (p (p (p (p x))))))))));": api.ErrWide,
	} {
		d, e := Derive(program(text))
		errs(t, text, e, want)
		if len(d.Schemes)+len(d.Bodies) > 0 {
			t.Errorf("Derive of %s: %s", text, showDerivation(d))
		}
	}
	_, e := Derive(api.Program{Decls: []api.Decl{{}}})
	errs(t, "a shape", e, api.ErrShape)
}

// pairsOf returns a function each of whose lets has a type of twice the size of the one before.
func pairsOf(levels int, rest string) string {
	text := ""
	for i := range levels {
		x := "x" + strconv.Itoa(i)
		text += "let x" + strconv.Itoa(i+1) + " = (" + x + ", " + x + ") in "
	}
	return "fun f x0 = " + text + rest + "; "
}

// P4.1: a derivation with a type that is not valid, or with too many types, is ErrLong.
func TestDeriveLong(t *testing.T) {
	uses := func(levels, count int) string {
		x := "x" + strconv.Itoa(levels)
		return "(" + strings.TrimSuffix(strings.Repeat("fn y => (1, "+x+"), ", count), ", ") + ")"
	}
	wrap := func(n int, rest string) string {
		text := "fun f x0 = "
		for i := range n {
			text += "let x" + strconv.Itoa(i+1) + " = Cons (Cons x" + strconv.Itoa(i) + " Nil) Nil in "
		}
		return library + text + rest + ";"
	}
	// The types of the pairs before have 3, 7, 15 and so on up to 1023 types.
	wide := func(u string) string {
		return pairsOf(9, "let u = "+u+" in let v = (x6, x5, u) in let w = (x9, x8, x7, v) in 1")
	}
	for text, want := range map[string]api.Errno{
		pairsOf(9, "1"):                       api.OK,
		pairsOf(10, "1"):                      api.ErrLong,
		pairsOf(9, "case x9 of y => 1 end"):   api.OK,
		pairsOf(9, "(fn z => 1) "+uses(9, 2)): api.ErrLong,
		pairsOf(7, "(fn z => 1) "+uses(7, 4)): api.OK,
		wrap(49, "1"):                         api.OK,
		wrap(49, "let y = Cons x49 Nil in 1"): api.OK,
		wrap(50, "1"):                         api.ErrLong,
		wide("(x3, x1)"):                      api.OK,
		wide("(x3, x1, x0)"):                  api.ErrLong,
	} {
		d, e := Derive(program(text))
		errs(t, text, e, want)
		if e != api.OK && len(d.Schemes)+len(d.Bodies) > 0 {
			t.Errorf("Derive of %s: %s", text, showNamed(d.Schemes))
		}
	}
	// All of these types are valid, but they are too many at some number of functions.
	last := api.OK
	for n := 1; n < 20; n++ {
		text := ""
		for i := range n {
			text += strings.Replace(pairsOf(9, "1"), "fun f ", "fun f"+strconv.Itoa(i)+" ", 1)
		}
		p := program(text)
		d, e := Derive(p)
		_, _, inferred := infer.Infer(p)
		errs(t, n, inferred, api.OK)
		if e != api.OK && e != api.ErrLong || last == api.ErrLong && e == api.OK || e == api.OK && Count(d) > api.MaxTypes {
			t.Errorf("Derive of %d functions: %d", n, e)
		}
		last = e
	}
	errs(t, "the last one", last, api.ErrLong)
}

// P4.1: a derivation may have MaxTypes types, and no more.
func TestMostTypes(t *testing.T) {
	piece := func(level int) string {
		switch level {
		case 0:
			return "val f = 1; "
		case 1:
			return "fun f x = x; "
		}
		return pairsOf(level-1, "1")
	}
	for _, most := range []int{api.MaxTypes, api.MaxTypes + 1} {
		text, left, number := "", most, 0
		add := func(level int) bool {
			one := piece(level)
			rest := left - Count(derived(program(one)))
			if rest < 0 || level > 1 && rest < 14 {
				return false
			}
			left = rest
			number++
			text += strings.Replace(one, " f ", " f"+strconv.Itoa(number)+" ", 1)
			return true
		}
		for level := 10; level > 1; level-- {
			for add(level) {
			}
		}
		// The two smallest have 3 and 8 types, so that they make what is left.
		for left > 0 {
			add(min(1, left%3))
		}
		p := program(text)
		d, e := Derive(p)
		if most > api.MaxTypes {
			errs(t, most, e, api.ErrLong)
			continue
		}
		if at, f := Check(p, d); Count(d) != most || e != api.OK || f != api.OK {
			t.Errorf("Derive: %d, %d types, Check: %d at %v", e, Count(d), f, at)
		}
	}
}

// change is a change of a right derivation, and where Check finds it.
type change struct {
	text string
	what func(d *api.Derivation)
	at   api.Blame
	e    api.Errno
}

func checkChanges(t *testing.T, l []change) {
	t.Helper()
	for i, c := range l {
		p := program(c.text)
		d := copyDerivation(derived(p))
		c.what(&d)
		at, e := Check(p, d)
		if e != c.e || !sameBlame(at, c.at) {
			t.Errorf("row %d: Check of %s: %d at %v, expected %d at %v", i, c.text, e, at, c.e, c.at)
		}
	}
}

// P4.1: Check: a derivation of another form than the program.
func TestCheckForm(t *testing.T) {
	none, form := api.Blame{}, api.ErrDerived
	checkChanges(t, []change{
		{example, func(d *api.Derivation) {}, none, api.OK},
		{example, func(d *api.Derivation) { d.Schemes = d.Schemes[:2] }, none, form},
		{example, func(d *api.Derivation) { d.Schemes = append(d.Schemes, d.Schemes[2]) }, none, form},
		{example, func(d *api.Derivation) { d.Schemes[1].Name = "k" }, none, form},
		{example, func(d *api.Derivation) { slices.Reverse(d.Schemes) }, none, form},
		{example, func(d *api.Derivation) { d.Bodies = d.Bodies[1:] }, none, form},
		{example, func(d *api.Derivation) { d.Bodies = append(d.Bodies, d.Bodies[2]) }, none, form},
		{example, func(d *api.Derivation) { d.Bodies[2].Args = nil }, none, form},
		{example, func(d *api.Derivation) { d.Bodies[2].Args = append(d.Bodies[2].Args, ty("Int")) }, none, form},
		{example, func(d *api.Derivation) { d.Bodies[0] = api.Typed{}; d.Bodies[2].Args = nil }, none, form},
		{example, func(d *api.Derivation) { *d = api.Derivation{} }, none, form},
		{"", func(d *api.Derivation) {}, none, api.OK},
		{"data A = B;", func(d *api.Derivation) { d.Bodies = []api.Typed{ty("Int", ty("Int"))} }, none, form},
		{"input i : Int;", func(d *api.Derivation) { d.Bodies = []api.Typed{ty("Int", ty("Int"))} }, none, form},
		{"input i : Int;", func(d *api.Derivation) { d.Schemes = nil }, none, form},
		{example, func(d *api.Derivation) { d.Schemes, d.Bodies[1] = nil, nest(60001) }, none, api.ErrLong},
		{example, func(d *api.Derivation) { d.Schemes[0].Scheme.Type = vast(90) }, none, api.ErrLong},
		{example, func(d *api.Derivation) { d.Bodies[1].Args = d.Bodies; d.Bodies[1].Args[1] = d.Bodies[1] }, none, api.ErrLong},
	})
}

// P4.1: Check: the errors of infer.Static come first, with their places.
func TestCheckStatic(t *testing.T) {
	long := api.Derivation{Bodies: []api.Typed{nest(60001)}}
	for text, want := range map[string]api.Blame{
		"val x = 1; fun f x = x and g y = f (h y);": {Decl: 1, Fun: 1, Path: []int{1, 0}},
		"val x = 1; val x = 2;":                     {Decl: 1},
		"data A = False;":                           {},
		"fun f x = x; input i : Int -> Int;":        {Decl: 1},
	} {
		p := program(text)
		at, e := Check(p, long)
		at2, f := infer.Static(p)
		if e != f || e == api.OK || !sameBlame(at, at2) || !sameBlame(at, want) {
			t.Errorf("Check of %s: %d at %v, Static: %d at %v", text, e, at, f, at2)
		}
	}
	_, e := Check(api.Program{Decls: make([]api.Decl, 61)}, long)
	errs(t, "61 declarations", e, api.ErrLong)
}

// P4.1: Check: inputs, elements, schemes and outputs.
func TestCheckPoints(t *testing.T) {
	at := func(decl, fun int, path ...int) api.Blame { return api.Blame{Decl: decl, Fun: fun, Path: path} }
	scheme := func(i int, vars, t string) func(*api.Derivation) {
		return func(d *api.Derivation) { d.Schemes[i].Scheme = api.Scheme{Vars: strings.Fields(vars), Type: typ(t)} }
	}
	step := api.ErrStep
	inputs := library + "input i : Ints; input j : Int;"
	two := "fun k x = fn y => x;"
	checkChanges(t, []change{
		{inputs, scheme(0, "", "Int"), at(4, 0), step},
		{inputs, scheme(1, "", "Ints"), at(5, 0), step},
		{inputs, scheme(1, "'a", "Int"), at(5, 0), step},
		{inputs, func(d *api.Derivation) { d.Schemes[1].Scheme.Type = endless(2) }, at(5, 0), step},
		{example, scheme(0, "'x", "'x -> 'x"), at(0, 0), api.OK},
		{example, scheme(0, "", "'a -> 'a"), at(0, 0), step},
		{example, scheme(0, "'a 'b", "'a -> 'a"), at(0, 0), step},
		{example, scheme(0, "'a 'a", "'a -> 'a"), at(0, 0), step},
		{example, scheme(0, "'a", "'a -> 'b"), at(0, 0), step},
		{example, scheme(0, "'a", "'a -> Int"), at(0, 0), step},
		{example, scheme(0, "'a", "'a"), at(0, 0), step},
		{example, func(d *api.Derivation) { d.Schemes[0].Scheme.Type = endless(2) }, at(0, 0), step},
		{example, func(d *api.Derivation) { d.Bodies[0].Inst = nil }, at(0, 0), step},
		{example, func(d *api.Derivation) { d.Bodies[0].Inst = typs("Int") }, at(0, 0), step},
		{example, func(d *api.Derivation) { d.Bodies[0].Inst = typs("'t0", "'t0") }, at(0, 0), step},
		{example, func(d *api.Derivation) { d.Bodies[0] = inst(ty("Int -> Int", ty("Int")), "Int") }, at(0, 0), step},
		{example, func(d *api.Derivation) { d.Bodies[0] = inst(ty("List 'a -> List 'a", ty("List 'a")), "List 'a") }, at(0, 0), step},
		{example, func(d *api.Derivation) { d.Bodies[0] = inst(ty("'x -> 'x", ty("'x")), "'x") }, at(0, 0), api.OK},
		{two, func(d *api.Derivation) {
			d.Bodies[0] = inst(ty("'a -> 'b -> 'a", ty("'b -> 'a", ty("'a"))), "'a", "'b")
		}, at(0, 0), api.OK},
		{two, func(d *api.Derivation) {
			d.Bodies[0] = inst(ty("'a -> 'a -> 'a", ty("'a -> 'a", ty("'a"))), "'a", "'a")
		}, at(0, 0), step},
		{two, func(d *api.Derivation) {
			d.Bodies[0] = inst(ty("'a -> 'b -> 'a", ty("'b -> 'a", ty("'a"))), "'b", "'a")
		}, at(0, 0), step},
		{example, func(d *api.Derivation) { d.Bodies[0].Inst = typs("'t1") }, at(0, 0), step},
		{example, func(d *api.Derivation) { d.Bodies[0].Inst = typs("Nope"); d.Bodies[0].Args[0].Type.Name = "Int" }, at(0, 0), step},
		{example, func(d *api.Derivation) { d.Bodies[0].Type = typ("Nope") }, at(0, 0), step},
		{example, func(d *api.Derivation) { d.Bodies[0].Type = typ("Int") }, at(0, 0), step},
		{example, func(d *api.Derivation) { d.Bodies[0].Type = typ("('t0, 't0)") }, at(0, 0), step},
		{example, func(d *api.Derivation) { d.Bodies[0].Type = typ("'t0 -> Int") }, at(0, 0), step},
		{example, func(d *api.Derivation) { d.Bodies[0].Args[0].Type = theInt() }, at(0, 0), step},
		{example, func(d *api.Derivation) { d.Bodies[0].Inst = nil; d.Bodies[1].Args[0].Args[0].Type = theInt() }, at(0, 0), step},
		{example, func(d *api.Derivation) { d.Bodies[1].Type = typ("Bool") }, at(1, 0), step},
		{example, func(d *api.Derivation) { d.Bodies[1].Inst = typs("'a") }, at(1, 0), step},
		{example, func(d *api.Derivation) {
			d.Bodies[1].Inst = typs("Nope")
			d.Bodies[1].Args[0].Args[1].Type = typ("Bool")
		}, at(1, 0), step},
		{example, func(d *api.Derivation) { d.Bodies[1].Args[0].Args[0].Inst = nil }, at(1, 0, 0), step},
		{example, scheme(1, "", "Bool"), at(1, 0), step},
		{example, scheme(2, "", "Bool"), at(2, 0), step},
		{example, func(d *api.Derivation) { d.Bodies[2].Args[0].Args[1].Args[0].Inst = typs("Bool") }, at(2, 0, 1, 0), step},
		{example, func(d *api.Derivation) { d.Bodies[2].Args[0].Args[1].Args[1].Type = typ("Bool") }, at(2, 0, 1), step},
	})
}

// open has a value whose body leaves a variable open.
const open = "val f = fn x => x; output o = 1;"

// P4.1: Check: a case does not hold if the type of what it looks at is not known.
func TestCheckCaseOfUnknown(t *testing.T) {
	for _, text := range []string{"case 0 of _ => 0 end", "case 0 of v => v end", "case (1, 2) of (_, v) => v end"} {
		p := program("val m = 1; fun f x = 1 and g y = (y, " + text + ");")
		d := derived(p)
		choice := &d.Bodies[2].Args[0].Args[1]
		for _, u := range []string{"Nope", "(Int, Nope)", "Bool Int"} {
			choice.Args[0].Type = typ(u)
			at, e := Check(p, d)
			if e != api.ErrStep || !sameBlame(at, api.Blame{Decl: 1, Fun: 1, Path: []int{1}}) {
				t.Errorf("Check of %s with %s = %v, %d", text, u, at, e)
			}
		}
	}
}

// P4.1: Check: values and outputs have no variables, and outputs no arrows.
func TestCheckValues(t *testing.T) {
	whole := func(t string, vars ...string) func(d *api.Derivation) {
		return func(d *api.Derivation) {
			u := typ(t)
			d.Schemes[0].Scheme = api.Scheme{Vars: vars, Type: u}
			d.Bodies[0] = api.Typed{Type: u, Args: []api.Typed{{Type: u, Args: []api.Typed{{Type: u.Args[0]}}}}}
			for _, v := range vars {
				d.Bodies[0].Inst = append(d.Bodies[0].Inst, typ(v))
			}
		}
	}
	checkChanges(t, []change{
		{open, whole("Bool -> Bool"), api.Blame{}, api.OK},
		{open, whole("'a -> 'a", "'a"), api.Blame{}, api.ErrStep},
		{open, whole("'a -> 'a"), api.Blame{}, api.ErrStep},
	})
	// Derive refuses outputs with arrows, so their derivations are made here.
	p := program("data A = B (Int -> Int); data C = D A; data E 'a = F 'a; output o = let fun f x = f x in f 1;")
	for i, texts := range [][]string{{"Int", "Bool", "(Int, E Bool)"}, {"A", "C", "E A", "E (E C)", "Int -> Int", "(Int, Int -> Int)", "E (Int -> Int)"}} {
		for _, u := range typs(texts...) {
			f := to(theInt(), u)
			call := api.Typed{Type: u, Args: []api.Typed{{Type: f}, ty("Int")}}
			body := api.Typed{Type: u, Args: []api.Typed{{Type: u, Inst: []api.Type{f}, Args: []api.Typed{call, call}}}}
			at, e := Check(p, api.Derivation{Schemes: []api.Named{sole("o", u)}, Bodies: []api.Typed{body}})
			want, wrong := []api.Errno{api.OK, api.ErrStep}[i], []api.Blame{{}, {Decl: 3}}[i]
			if e != want || !sameBlame(at, wrong) {
				t.Errorf("%s: %d at %v", show(u), e, at)
			}
		}
	}
}

// P4.1: Check: groups.
func TestCheckGroups(t *testing.T) {
	group := "val v = 1; fun f x = g x and g y = f y;"
	at := func(fun int, path ...int) api.Blame { return api.Blame{Decl: 1, Fun: fun, Path: path} }
	step := api.ErrStep
	checkChanges(t, []change{
		// The types of all elements are known first.
		{group, func(d *api.Derivation) { d.Bodies[2].Type = typ("Nope") }, at(0), step},
		{group, func(d *api.Derivation) { d.Bodies[2].Type = typ("Nope"); d.Bodies[1].Args[0] = ty("Int") }, at(0), step},
		{group, func(d *api.Derivation) { d.Bodies[2].Inst = typs("Nope") }, at(1), step},
		{group, func(d *api.Derivation) { d.Bodies[1].Inst = typs("Nope") }, at(0), step},
		{"val v = 1; fun f x = x and g y = f y;", func(d *api.Derivation) { d.Bodies[2].Type = typ("Int") }, at(1), step},
		{group, func(d *api.Derivation) { d.Bodies[2].Type = typ("Int -> Int") }, at(0, 0), step},
		{group, func(d *api.Derivation) { d.Bodies[1].Args[0].Args[0].Inst = typs("Int") }, at(0, 0), step},
		{group, func(d *api.Derivation) { d.Schemes[2].Scheme.Vars = nil }, at(1), step},
		// A scheme of the group is not looked at before its body.
		{group, func(d *api.Derivation) { d.Schemes[2].Scheme.Vars = nil; d.Bodies[1].Inst = nil }, at(0), step},
		{group, func(d *api.Derivation) { d.Schemes[2].Scheme.Type = endless(3) }, at(1), step},
		{group, func(d *api.Derivation) { d.Bodies[0].Inst = typs("'a"); d.Bodies[1].Inst = nil }, api.Blame{}, step},
	})
	// The variables mean the same in all bodies of a group: others in one of them are wrong.
	p := program(group)
	d := copyDerivation(derived(p))
	vars, other := []string{"'t0", "'t1"}, typs("'x", "'y")
	d.Bodies[2] = mapTyped(d.Bodies[2], func(t api.Type) api.Type { return put(t, vars, other) })
	if b, e := Check(p, d); e != step || !sameBlame(b, at(0, 0)) {
		t.Errorf("Check: %d at %v", e, b)
	}
	d.Bodies[1] = mapTyped(d.Bodies[1], func(t api.Type) api.Type { return put(t, vars, other) })
	_, e := Check(p, d)
	errs(t, "other variables", e, api.OK)
}

// P4.1: Check: what stands in an environment.
func TestCheckEnvironments(t *testing.T) {
	p := program("input i : Int; fun f x = x; val v = (f i, f True); output o = v; fun g f = let i = f in i; output q = g (case v of (a, _) => f a end);")
	d := derived(p)
	_, e := Check(p, d)
	errs(t, "all", e, api.OK)
	uses, _ := Uses(p, d)
	if got := showUses(uses); got != "2 0 0 0 f Int; 2 0 1 0 f Bool; 5 0 0 g Int; 5 0 1 1 0 f Int" {
		t.Errorf("Uses: %s", got)
	}
}

// P4.1: Count.
func TestCount(t *testing.T) {
	named := func(l ...api.Type) (result []api.Named) {
		for _, u := range l {
			result = append(result, sole("", u))
		}
		return result
	}
	loop := ty("Int", ty("Int"))
	loop.Args[0] = loop
	for i, c := range []struct {
		d    api.Derivation
		want int
	}{
		{api.Derivation{}, 0},
		{api.Derivation{Schemes: named(typ("Int -> 'a"), typ("Int"), api.Type{})}, 5},
		{api.Derivation{Schemes: []api.Named{{Scheme: api.Scheme{Vars: []string{"'a", "'b"}}}}}, 1},
		{api.Derivation{Bodies: []api.Typed{inst(ty("Int -> Int", ty("List Int", inst(ty("Int"), "Bool -> Bool")), ty("Int")), "Int", "(Int, Int)")}}, 14},
		{api.Derivation{Bodies: []api.Typed{{Type: chain(100, "Int")}}}, 100},
		{api.Derivation{Bodies: []api.Typed{{Type: chain(101, "Int")}}}, 100},
		{api.Derivation{Bodies: []api.Typed{{Type: endless(1)}, {Inst: []api.Type{endless(4)}}}}, 201},
		{api.Derivation{Bodies: []api.Typed{nest(60000)}}, 60000},
		{api.Derivation{Bodies: []api.Typed{nest(60001)}}, 60001},
		{api.Derivation{Bodies: []api.Typed{nest(60002)}}, 60001},
		{api.Derivation{Bodies: []api.Typed{nest(30000), nest(30000)}}, 60000},
		{api.Derivation{Schemes: named(typ("Int -> Int")), Bodies: []api.Typed{nest(59998)}}, 60001},
		{api.Derivation{Bodies: []api.Typed{{Type: vast(16)}}}, 60001},
		{api.Derivation{Bodies: []api.Typed{{Type: vast(15)}}}, 32767},
		{api.Derivation{Schemes: named(vast(5000))}, 60001},
		{api.Derivation{Bodies: []api.Typed{loop}}, 60001},
		{api.Derivation{Bodies: make([]api.Typed, 1000000)}, 60001},
		{api.Derivation{Schemes: make([]api.Named, 60000)}, 60000},
		{api.Derivation{Bodies: []api.Typed{{Type: api.Type{Args: make([]api.Type, 1000000)}}}}, 60001},
	} {
		if got := Count(c.d); got != c.want {
			t.Errorf("row %d: Count = %d, expected %d", i, got, c.want)
		}
	}
}

// P4.1: At.
func TestAt(t *testing.T) {
	p := program("data A = B; input i : A; fun f x = fn y => x + y and g x = f x; val v = f 1; output o = g 2 (v 3);")
	d := derived(p)
	for _, c := range []struct {
		b    api.Blame
		want string
		e    api.Errno
	}{
		{api.Blame{Decl: 2}, "Int -> Int [Int [Int; Int]]", api.OK},
		{api.Blame{Decl: 2, Path: []int{0}}, "Int [Int; Int]", api.OK},
		{api.Blame{Decl: 2, Path: []int{0, 1}}, "Int", api.OK},
		{api.Blame{Decl: 2, Fun: 1, Path: []int{0}}, "Int -> Int -> Int", api.OK},
		{api.Blame{Decl: 3}, "Int -> Int [Int -> Int -> Int; Int]", api.OK},
		{api.Blame{Decl: 4, Path: []int{1, 0}}, "Int -> Int", api.OK},
		{api.Blame{Decl: 0}, "", api.ErrNone},
		{api.Blame{Decl: 1}, "", api.ErrNone},
		{api.Blame{Decl: 5}, "", api.ErrNone},
		{api.Blame{Decl: -1}, "", api.ErrNone},
		{api.Blame{Decl: 2, Fun: 2}, "", api.ErrNone},
		{api.Blame{Decl: 2, Fun: -1}, "", api.ErrNone},
		{api.Blame{Decl: 3, Fun: 1}, "", api.ErrNone},
		{api.Blame{Decl: 3, Path: []int{2}}, "", api.ErrNone},
		{api.Blame{Decl: 3, Path: []int{-1}}, "", api.ErrNone},
		{api.Blame{Decl: 3, Path: []int{0, 0}}, "", api.ErrNone},
	} {
		x, e := At(p, d, c.b)
		errs(t, c.b, e, c.e)
		if got := showTyped(x); e == api.OK && got != c.want || e != api.OK && x.Type.Name != "" {
			t.Errorf("At of %v: %s, expected %s", c.b, got, c.want)
		}
	}
}

// P4.1: Uses goes through the bodies in order, and a node before its Args.
func TestUses(t *testing.T) {
	p := program("fun id x = x; fun k x = fn y => x; fun f z = id k (id z) and g id = id f; fun h x = let fun k y = k y in k; output o = case k 1 True of x => id x + 0 end;")
	d := derived(p)
	uses, e := Uses(p, d)
	f := d.Bodies[2].Args[0]
	k, z := f.Args[0], f.Args[1]
	want := "2 0 0 0 id " + showAll(k.Args[0].Inst) + "; 2 0 0 1 k " + showAll(k.Args[1].Inst) + "; 2 0 1 0 id " + showAll(z.Args[0].Inst) +
		"; 4 0 0 0 0 k Int, Bool; 4 0 1 0 0 id Int"
	if got := showUses(uses); got != want || e != api.OK {
		t.Errorf("Uses: %d, %s\nexpected %s", e, got, want)
	}
	uses, e = Uses(p, api.Derivation{})
	errs(t, "another derivation", e, api.ErrDerived)
	if len(uses) > 0 {
		t.Errorf("Uses of another derivation: %s", showUses(uses))
	}
}

// P4.1: Special, and its errors.
func TestSpecial(t *testing.T) {
	p := program(library + "fun k x = fn y => let f = fn z => z in x; output o = k 1 2; input i : Int;")
	d := derived(p)
	if got, e := Special(p, d, 0, typs("Op", "List Int")); e != api.OK ||
		showTyped(got) != "Op -> List Int -> Op {Op, List Int} [List Int -> Op [Op [Int -> Int [Int]; Op]]]" {
		t.Errorf("Special of k: %d, %s", e, showTyped(got))
	}
	if got, e := Special(p, d, 1, nil); e != api.OK || showTyped(got) != showTyped(d.Bodies[1]) {
		t.Errorf("Special of o: %d, %s", e, showTyped(got))
	}
	for i, c := range []struct {
		k    int
		inst []api.Type
		want api.Errno
	}{
		{-1, nil, api.ErrNone},
		{2, nil, api.ErrNone},
		{2, typs("Nope"), api.ErrNone},
		{0, nil, api.ErrArg},
		{0, typs("Int"), api.ErrArg},
		{0, typs("Int", "Int", "Int"), api.ErrArg},
		{0, typs("Int", "'a"), api.ErrArg},
		{0, typs("Int", "List 'a"), api.ErrArg},
		{0, typs("Int", "Nope"), api.ErrArg},
		{0, typs("Int", "List"), api.ErrArg},
		{0, []api.Type{theInt(), {}}, api.ErrArg},
		{0, []api.Type{theInt(), endless(2)}, api.ErrArg},
		{0, []api.Type{theInt(), vast(12)}, api.ErrArg},
		{0, []api.Type{theInt(), vast(10)}, api.OK},
		{1, typs("Int"), api.ErrArg},
	} {
		x, e := Special(p, d, c.k, c.inst)
		errs(t, i, e, c.want)
		if e != api.OK && (x.Type.Name != "" || len(x.Inst)+len(x.Args) > 0) {
			t.Errorf("row %d: %s", i, showTyped(x))
		}
	}
	_, e := Special(p, api.Derivation{}, 5, nil)
	errs(t, "another derivation", e, api.ErrDerived)
}

// P4.1: Special may return types that are not valid, but no more than MaxTypes.
func TestSpecialLong(t *testing.T) {
	// Each let has two types more with a variable: x itself, and the let.
	lets := func(n int) api.Program { return program("fun f x = " + strings.Repeat("let y = x in ", n) + "x;") }
	for n, want := range map[int]api.Errno{1: api.OK, 27: api.OK, 28: api.ErrLong, 60: api.ErrLong} {
		p := lets(n)
		d := derived(p)
		x, e := Special(p, d, 0, []api.Type{vast(10)})
		errs(t, n, e, want)
		if e != api.OK {
			continue
		}
		// The Type of the element has two variables, its Inst one, and the body two for each let and one behind them.
		if got := Count(api.Derivation{Bodies: []api.Typed{x}}); got != 1+1023*(4+2*n) || infer.CheckType(x.Type) == api.OK {
			t.Errorf("%d: %d types", n, got)
		}
	}
	for n, want := range map[int]api.Errno{28: api.ErrLong, 27: api.OK} {
		if (1+1023*(4+2*n) > api.MaxTypes) != (want == api.ErrLong) {
			t.Errorf("%d lets are not at the limit", n)
		}
	}
	// One let more, of 1, has an Int, and the inst once.
	p := program("fun f x = " + strings.Repeat("let y = x in ", 63) + "let y = 1 in x;")
	x, e := Special(p, derived(p), 0, []api.Type{sized(458)})
	if got := Count(api.Derivation{Bodies: []api.Typed{x}}); e != api.OK || got != api.MaxTypes {
		t.Errorf("Special with %d types: %d", got, e)
	}
	_, e = Special(p, derived(p), 0, []api.Type{sized(459)})
	errs(t, "too many", e, api.ErrLong)
	// What is deeper than MaxDeep is not counted, but there.
	p = program(library + "fun f x = Cons x Nil;")
	x, e = Special(p, derived(p), 0, []api.Type{chain(100, "Int")})
	if e != api.OK || len(key(x.Args[0].Type)) != len(key(chain(101, "Int"))) {
		t.Errorf("Special of a deep type: %d", e)
	}
}

// P4.1: First, and its errors.
func TestFirst(t *testing.T) {
	p := program("data A = B; input i : A; fun f x = x and g y = y; val v = f 1; output o = v;")
	d := derived(p)
	for n, want := range []string{"", "", "i", "i f g", "i f g v", "i f g v o"} {
		got, e := First(p, d, n)
		var names []string
		for _, s := range got.Schemes {
			names = append(names, s.Name)
		}
		errs(t, n, e, api.OK)
		if strings.Join(names, " ") != want || len(got.Bodies) != max(0, len(names)-1) {
			t.Errorf("First of %d: %s", n, showDerivation(got))
		}
	}
	for _, n := range []int{-1, 6, -1 << 62, 1 << 62} {
		got, e := First(p, d, n)
		errs(t, n, e, api.ErrArg)
		if len(got.Schemes)+len(got.Bodies) > 0 {
			t.Errorf("First of %d: %s", n, showDerivation(got))
		}
	}
	_, e := First(p, api.Derivation{}, -1)
	errs(t, "another derivation", e, api.ErrDerived)
	// A data type may be declared behind its use.
	p = program("data A = B C; fun f x = x; data C = D;")
	first, _ := First(p, derived(p), 2)
	_, e = Check(api.Program{Decls: p.Decls[:2]}, first)
	errs(t, "without C", e, api.ErrName)
}

// P4.1: Same.
func TestSame(t *testing.T) {
	p := program(library + "fun id x = x; val n = id 3; output m = case Cons (id n) Nil of Cons h _ => h | Nil => 0 end;")
	d := derived(p)
	if !Same(d, copyDerivation(d)) || !Same(api.Derivation{}, api.Derivation{Schemes: []api.Named{}, Bodies: []api.Typed{}}) {
		t.Error("Same of equal derivations")
	}
	for i, change := range []func(d *api.Derivation){
		func(d *api.Derivation) { d.Schemes = d.Schemes[1:] },
		func(d *api.Derivation) { d.Bodies = d.Bodies[1:] },
		func(d *api.Derivation) { d.Schemes[1].Name = "k" },
		func(d *api.Derivation) { d.Schemes[0].Scheme.Vars = []string{"'b"} },
		func(d *api.Derivation) { d.Schemes[0].Scheme.Vars = nil },
		func(d *api.Derivation) { d.Schemes[0].Scheme.Type.Args[1].Name = "'b" },
		func(d *api.Derivation) { d.Bodies[0].Type.Args = d.Bodies[0].Type.Args[:1] },
		func(d *api.Derivation) { d.Bodies[0].Inst = nil },
		func(d *api.Derivation) { d.Bodies[0].Inst[0].Name = "'a" },
		func(d *api.Derivation) { d.Bodies[2].Args[0].Args[0].Args[0].Args[0].Inst[0].Name = "Bool" },
		func(d *api.Derivation) { d.Bodies[2].Args[0].Args = d.Bodies[2].Args[0].Args[:2] },
		func(d *api.Derivation) { d.Bodies[2].Args[0].Args[2].Type.Name = "" },
	} {
		other := copyDerivation(d)
		change(&other)
		if Same(d, other) || Same(other, d) {
			t.Errorf("row %d: Same of other derivations", i)
		}
	}
	of := func(x api.Typed) api.Derivation { return api.Derivation{Bodies: []api.Typed{x}} }
	deep := func(t api.Type) api.Derivation { return of(api.Typed{Type: t}) }
	for i, c := range []struct {
		a, b api.Derivation
		want bool
	}{
		{of(api.Typed{Type: theInt(), Inst: []api.Type{}, Args: []api.Typed{}}), of(ty("Int")), true},
		{of(nest(60000)), of(nest(60000)), true},
		{of(nest(60001)), of(nest(60001)), false},
		{of(nest(60000)), of(nest(60001)), false},
		{deep(chain(500, "Int")), deep(chain(500, "Int")), true},
		{deep(chain(500, "Int")), deep(chain(500, "'a")), false},
		{deep(endless(5)), deep(endless(7)), true},
		{deep(endless(5)), deep(chain(500, "Int")), false},
		{deep(vast(50)), deep(vast(50)), false},
	} {
		if Same(c.a, c.b) != c.want || Same(c.b, c.a) != c.want {
			t.Errorf("row %d: Same is %v", i, !c.want)
		}
	}
}

// P4.1: a result shares no memory with an argument, and arguments stay as they are.
func TestNewMemory(t *testing.T) {
	p := program(library + "fun id x = x; fun k x = fn y => id x; output m = k (id 3) Nil;")
	d := derived(p)
	before := showDerivation(d)
	spoilAll := func(l ...api.Typed) {
		for i := range l {
			for _, u := range typesIn(&l[i], false) {
				u.Name = "Spoilt"
			}
		}
	}
	spoilNamed := func(l []api.Named) {
		for i := range l {
			l[i].Name = "spoilt"
			x := api.Typed{Type: l[i].Scheme.Type}
			spoilAll(x)
			for j := range l[i].Scheme.Vars {
				l[i].Scheme.Vars[j] = "spoilt"
			}
		}
	}
	arg := typs("List Int", "Op")
	x, _ := Special(p, d, 1, arg)
	spoilAll(x)
	y, _ := At(p, d, api.Blame{Decl: 6})
	spoilAll(y)
	first, _ := First(p, d, 7)
	spoilAll(first.Bodies...)
	spoilNamed(first.Schemes)
	uses, _ := Uses(p, d)
	for _, u := range uses {
		spoilAll(api.Typed{Inst: u.Inst})
		for i := range u.At.Path {
			u.At.Path[i] = 9
		}
	}
	ds, whole := datas(library), typ("Pair (List Int) Op")
	l, _ := Bind(ds, pat("P (Cons x _) y"), whole)
	spoilNamed(l)
	l, _ = Bind(ds, pat("x"), whole)
	spoilNamed(l)
	l, _ = Bind(ds, pat("O f"), typ("Op"))
	spoilNamed(l)
	if showDerivation(d) != before || showAll(arg) != "List Int, Op" || show(whole) != "Pair (List Int) Op" || show(ds[4].Cons[0].Args[0]) != "Int -> Int" {
		t.Errorf("arguments changed: %s", showDerivation(d))
	}
	spoilAll(d.Bodies...)
	spoilNamed(d.Schemes)
	if d = derived(p); showDerivation(d) != before {
		t.Errorf("Derive again: %s", showDerivation(d))
	}
}

// P4.1: no argument makes a function panic, or go on without an end.
func TestAnyArguments(t *testing.T) {
	d := newDice(11)
	names := []string{"", "x", "f", "Int", "List", "Cons", ",", "->", "'a", "True", "P", "+"}
	types := []api.Type{{}, theInt(), typ("List 'a"), typ("'a -> 'a"), endless(2), vast(40), chain(120, "Int"), {Name: ",", Args: typs("Int")}}
	var typed func(deep int) api.Typed
	typed = func(deep int) api.Typed {
		x := api.Typed{Type: pick(d, types)}
		for range d.IntN(3) {
			x.Inst = append(x.Inst, pick(d, types[:4]))
		}
		for range d.IntN(3) {
			if deep > 0 {
				x.Args = append(x.Args, typed(deep-1))
			}
		}
		return x
	}
	var any func(deep int) api.Expr
	any = func(deep int) api.Expr {
		e := api.Expr{Kind: d.IntN(11), Num: d.IntN(2), Name: pick(d, names), Arg: pick(d, names)}
		for range d.IntN(4) {
			if deep > 0 {
				e.Args = append(e.Args, any(deep-1))
				e.Pats = append(e.Pats, api.Pat{Kind: d.IntN(4), Name: pick(d, names)})
			}
		}
		return e
	}
	for range 400 {
		p := api.Program{Decls: []api.Decl{{Kind: d.IntN(6), Name: pick(d, names), Type: pick(d, types), Body: any(2)}}}
		ds := []api.Data{{Name: pick(d, names), Vars: []string{pick(d, names)}, Cons: []api.Con{{Name: pick(d, names), Args: []api.Type{pick(d, types)}}}}}
		e := expr(pick(d, []string{"1", "x", "f x", "Cons x x", "let f = x in f", "case x of Cons x f => f | y => x end", "let fun f x = f x in f", "fn x => x + f"}))
		v := api.Derivation{Schemes: []api.Named{{Name: pick(d, names), Scheme: api.Scheme{Vars: names[:d.IntN(4)], Type: pick(d, types)}}}, Bodies: []api.Typed{typed(3)}}
		env := []api.Named{sole("x", pick(d, types)), sole("f", pick(d, types))}
		if d.IntN(2) == 0 {
			p = program("fun f x = f x; output o = let y = f in 1;")
			v.Schemes = append(v.Schemes, sole("o", theInt()))
			v.Bodies = append(v.Bodies, typed(3))
		}
		Derive(p)
		Check(p, v)
		Step(ds, env, e, typed(4))
		Step(datas(library), env[:1], e, typed(4))
		Step(nil, nil, any(3), typed(2))
		Bind(ds, api.Pat{Kind: d.IntN(4), Name: pick(d, names)}, pick(d, types))
		Count(v)
		At(p, v, api.Blame{Decl: d.IntN(3) - 1, Fun: d.IntN(3) - 1})
		Uses(p, v)
		Special(p, v, d.IntN(4)-1, []api.Type{pick(d, types)})
		First(p, v, d.IntN(4)-1)
		Same(v, v)
	}
}

// P4.1: programs of the greatest size do not take long.
func TestGreatPrograms(t *testing.T) {
	text := "fun id x = x; "
	for i := range 20 {
		text += "fun f" + strconv.Itoa(i) + " x = " + strings.Repeat("id (", 46) + "x" + strings.Repeat(")", 46) + "; "
	}
	p := program(text)
	d := derived(p)
	at, e := Check(p, d)
	uses, f := Uses(p, d)
	if e != api.OK || f != api.OK || len(uses) != 20*46 || len(uses[0].At.Path) != 1 {
		t.Errorf("Check: %d at %v; %d uses", e, at, len(uses))
	}
	if d, e = Derive(program(text + "output o = f0;")); e != api.ErrOutput {
		t.Errorf("Derive: %d", e)
	}
}
