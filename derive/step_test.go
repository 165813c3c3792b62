package derive

import (
	"slices"
	"strconv"
	"strings"
	"testing"

	"restitch/api"
)

// ruled is an expression with types in an environment, and the path at which these are wrong; "ok" if they are not.
type ruled struct {
	expr, env string
	x         api.Typed
	want      string
}

func showPath(path []int, e api.Errno) string {
	if e == api.OK {
		return "ok"
	}
	var words []string
	for _, i := range path {
		words = append(words, strconv.Itoa(i))
	}
	return strings.Join(words, " ")
}

func checkRules(t *testing.T, l []ruled) {
	t.Helper()
	ds := datas(library)
	for i, c := range l {
		path, e := Step(ds, env(c.env), expr(c.expr), c.x)
		if got := showPath(path, e); got != c.want || e != api.OK && e != api.ErrStep || e == api.OK && len(path) > 0 {
			// The types may have no end, so they are not shown.
			t.Errorf("row %d: Step of %s in %s: %d at %q, expected %q", i, c.expr, c.env, e, got, c.want)
		}
	}
}

// P4.1: numbers and names.
func TestAtoms(t *testing.T) {
	id := "id: 'a. 'a -> 'a"
	checkRules(t, []ruled{
		{"1", "", ty("Int"), "ok"},
		{"1", "", ty("Bool"), ""},
		{"1", "", ty("'a"), ""},
		{"1", "", inst(ty("Int"), "Int"), ""},
		{"1", "", ty("Int", ty("Int")), ""},
		{"1", "", api.Typed{Type: api.Type{Name: "Int", Args: typs("Int")}}, ""},
		{"1", "", api.Typed{}, ""},
		{"x", "x: . Int", ty("Int"), "ok"},
		{"x", "x: . 'a", ty("'a"), "ok"},
		{"x", "x: . 'a", ty("'b"), ""},
		{"x", "x: . 'a", ty("Int"), ""},
		{"x", "x: . Int; x: . Bool", ty("Bool"), "ok"},
		{"x", "x: . Int; x: . Bool", ty("Int"), ""},
		{"x", "y: . Int", ty("Int"), ""},
		{"x", "", ty("Int"), ""},
		{"x", "x: . Int", inst(ty("Int"), "Int"), ""},
		{"x", "x: . Int", ty("Int", ty("Int")), ""},
		{"id", id, inst(ty("Int -> Int"), "Int"), "ok"},
		{"id", id, inst(ty("('b -> 'a) -> 'b -> 'a"), "'b -> 'a"), "ok"},
		{"id", id, inst(ty("'a -> 'a"), "'a"), "ok"},
		{"id", id, inst(ty("Int -> Bool"), "Int"), ""},
		{"id", id, inst(ty("Int -> Int"), "Bool"), ""},
		{"id", id, ty("'a -> 'a"), ""},
		{"id", id, inst(ty("Int -> Int"), "Int", "Int"), ""},
		{"id", id, inst(ty("Nope -> Nope"), "Nope"), ""},
		{"id", id, inst(ty("List -> List"), "List"), ""},
		{"id", id, inst(ty("Ints Int -> Ints Int"), "Ints Int"), ""},
		// All variables are replaced at once, the free ones stay.
		{"k", "k: 'a 'b. 'a -> 'b -> 'c", inst(ty("'b -> Int -> 'c"), "'b", "Int"), "ok"},
		{"k", "k: 'a 'b. 'a -> 'b -> 'c", inst(ty("'b -> 'a -> 'c"), "'b", "'a"), "ok"},
		{"k", "k: 'a 'b. 'a -> 'b -> 'c", inst(ty("'a -> 'a -> 'c"), "'b", "'a"), ""},
		{"k", "k: 'b 'a. 'a -> 'b -> 'c", inst(ty("'b -> Int -> 'c"), "Int", "'b"), "ok"},
		{"k", "k: 'b 'a. 'a -> 'b -> 'c", inst(ty("'b -> Int -> Int"), "Int", "'b"), ""},
	})
}

// P4.1: constructors and tuples.
func TestMade(t *testing.T) {
	n := ty("Int")
	yes := ty("Bool")
	checkRules(t, []ruled{
		{"Nil", "", ty("List Int"), "ok"},
		{"Nil", "", ty("List 'a"), "ok"},
		{"Nil", "", ty("Ints"), ""},
		{"Nil", "", ty("List"), ""},
		{"Nil", "", ty("List Nope"), ""},
		{"Nil", "", inst(ty("List Int"), "Int"), ""},
		{"Nope", "", ty("Int"), ""},
		{"Nil 1", "", ty("List Int", n), ""},
		{"Cons 1", "", ty("List Int", n), ""},
		{"Cons 1 Nil", "", ty("List Int", n, ty("List Int")), "ok"},
		{"Cons 1 Nil", "", ty("List Int", n, ty("List Bool")), ""},
		{"Cons 1 Nil", "", ty("List Bool", n, ty("List Bool")), ""},
		{"Cons 1 Nil", "", ty("List Bool", yes, ty("List Bool")), "0"},
		{"Cons 1 Nil", "", ty("List Int", n), ""},
		{"Cons 1 Nil", "", ty("List Int", n, ty("List Int"), n), ""},
		{"P 1 True", "", ty("Pair Int Bool", n, yes), "ok"},
		{"P 1 True", "", ty("Pair Bool Int", n, yes), ""},
		{"True", "", yes, "ok"},
		{"O (fn x => x)", "", ty("Op", ty("Int -> Int", n)), "ok"},
		{"O (fn x => x)", "", ty("Op", ty("Bool -> Bool", yes)), ""},
		{"(1, True)", "", ty("(Int, Bool)", n, yes), "ok"},
		{"(1, True)", "", ty("(Bool, Int)", n, yes), ""},
		{"(1, True)", "", ty("(Int, Bool, Int)", n, yes), ""},
		{"(1, True)", "", ty("Pair Int Bool", n, yes), ""},
		{"(1, True)", "", inst(ty("(Int, Bool)", n, yes), "Int"), ""},
		{"(1, 2, 3, 4)", "", ty("(Int, Int, Int, Int)", n, n, n, n), "ok"},
		{"(1, 2, 3, 4)", "", ty("(Int, Int, Int, Bool)", n, n, n, yes), "3"},
		{"(1, Nope)", "", ty("(Int, Int)", n, n), "1"},
	})
}

// P4.1: functions, let, and operators.
func TestBound(t *testing.T) {
	n, yes, f := ty("Int"), ty("Bool"), ty("Int -> Bool")
	checkRules(t, []ruled{
		{"f x", "f: . Int -> Bool; x: . Int", ty("Bool", f, n), "ok"},
		{"f x", "f: . Int -> Bool; x: . Int", ty("Int", f, n), ""},
		{"f x", "f: . Int -> Bool; x: . Int", ty("Bool", f, yes), ""},
		{"f x", "f: . Int -> Bool; x: . Int", ty("Bool", n, n), ""},
		{"f x", "f: . Int -> Bool; x: . Bool", ty("Bool", f, n), "1"},
		{"f x", "f: . Int -> Int; x: . Int", ty("Bool", f, n), "0"},
		{"f x", "f: . Int -> Bool; x: . Int", inst(ty("Bool", f, n), "Int"), ""},
		{"f x", "f: . Int -> Bool; x: . Int", ty("Bool", f), ""},
		{"fn x => x", "", ty("Int -> Int", n), "ok"},
		{"fn x => x", "x: . Bool", ty("Int -> Int", n), "ok"},
		{"fn x => x", "x: 'a. 'a", ty("'a -> 'a", ty("'a")), "ok"},
		{"fn x => x", "", ty("Int -> Bool", n), ""},
		{"fn x => x", "", ty("Bool -> Int", n), "0"},
		{"fn x => x", "", ty("(Int, Int)", n), ""},
		{"fn x => x", "", ty("Int", n), ""},
		{"fn x => x", "", ty("Int -> Int"), ""},
		{"let x = 1 in x", "", ty("Int", n, n), "ok"},
		{"let x = 1 in x", "", ty("Bool", n, yes), "1"},
		{"let x = 1 in x", "", ty("Bool", n, n), ""},
		{"let x = 1 in x", "", ty("Int", yes, n), "0"},
		{"let x = x in x", "x: . Int", ty("Int", n, n), "ok"},
		{"let x = x in 1", "", ty("Int", n, n), "0"},
		{"let x = True in 1", "", ty("Int", yes, n), "ok"},
		// The name of a let has one type.
		{"let i = fn y => y in (i 1, i True)", "", ty("(Int, Bool)", ty("'a -> 'a", ty("'a")), ty("(Int, Bool)", ty("Int", ty("Int -> Int"), n), ty("Bool", ty("Bool -> Bool"), yes))), "1 0 0"},
		{"1 + 2", "", ty("Int", n, n), "ok"},
		{"1 - 2", "", ty("Bool", n, n), ""},
		{"1 * 2", "", ty("Int", yes, n), ""},
		{"1 / True", "", ty("Int", n, yes), ""},
		{"1 / True", "", ty("Int", n, n), "1"},
		{"True % 1", "", ty("Int", n, n), "0"},
		{"1 < 2", "", ty("Bool", n, n), "ok"},
		{"1 = 2", "", ty("Bool", n, n), "ok"},
		{"1 < 2", "", ty("Int", n, n), ""},
		{"1 = 2", "", ty("Bool", yes, n), ""},
		{"1 = 2", "", ty("Bool", n, yes), ""},
		{"True = False", "", ty("Bool", yes, yes), ""},
		{"1 + 2", "", inst(ty("Int", n, n), "Int"), ""},
	})
}

// P4.1: functions that call themselves.
func TestRecursive(t *testing.T) {
	n, yes := ty("Int"), ty("Bool")
	rec := func(own string, x ...api.Typed) api.Typed { return inst(ty("Int", x...), own) }
	call := ty("Int", ty("Int -> Int"), n)
	checkRules(t, []ruled{
		{"let fun f x = x in f 1", "", rec("Int -> Int", n, call), "ok"},
		{"let fun f x = f x in f 1", "", rec("Int -> Int", call, call), "ok"},
		{"let fun f x = f x in 1", "", rec("Bool -> 'a", ty("'a", ty("Bool -> 'a"), yes), n), "ok"},
		{"let fun f x = x in f 1", "", ty("Int", n, call), ""},
		{"let fun f x = x in f 1", "", inst(ty("Int", n, call), "Int -> Int", "Int"), ""},
		{"let fun f x = x in f 1", "", rec("Int", n, call), ""},
		{"let fun f x = x in f 1", "", rec("(Int, Int)", n, call), ""},
		{"let fun f x = x in f 1", "", rec("Int -> Bool", n, call), ""},
		{"let fun f x = x in f 1", "", rec("Int -> Nope", ty("Nope"), call), ""},
		{"let fun f x = x in f 1", "", rec("Bool -> Int", n, call), "0"},
		{"let fun f x = x in f 1", "", rec("Int -> Int", n, ty("Int", ty("Int -> Int"), yes)), "1"},
		{"let fun f x = x in True", "", rec("Int -> Int", n, yes), ""},
		// The Arg hides the name within, and does not stand outside.
		{"let fun f f = f + 1 in f 1", "", rec("Int -> Int", ty("Int", n, n), call), "ok"},
		{"let fun f x = x in x", "", rec("Int -> Int", n, n), "1"},
		{"let fun f x = x in x", "x: . Int", rec("Bool -> Bool", yes, n), "ok"},
		{"f", "f: . Int; g: . Int", n, "ok"},
		{"let fun f x = x in f", "f: . Int", inst(ty("Int -> Int", n, ty("Int -> Int")), "Int -> Int"), "ok"},
	})
}

// P4.1: cases.
func TestCases(t *testing.T) {
	n, yes, l := ty("Int"), ty("Bool"), ty("List Int")
	checkRules(t, []ruled{
		{"case 1 of x => x end", "", ty("Int", n, n), "ok"},
		{"case 1 of _ => True end", "", ty("Bool", n, yes), "ok"},
		{"case 1 of x => x end", "", ty("Bool", n, n), ""},
		{"case 1 of x => x end", "", ty("Bool", n, yes), "1"},
		{"case 1 of x => x end", "", ty("Int", yes, n), "0"},
		{"case 1 of x => x | y => True end", "", ty("Int", n, n, yes), ""},
		{"case 1 of x => x | y => True end", "", ty("Int", n, n, n), "2"},
		{"case 1 of True => 1 end", "", ty("Int", n, n), ""},
		{"case 1 of True => 1 end", "", ty("Int", yes, n), "0"},
		{"case l of Nil => 0 | Cons h _ => h end", "l: . List Int", ty("Int", l, n, n), "ok"},
		{"case l of Nil => 0 | Cons h _ => h end", "l: . List Int", ty("Int", ty("List Bool"), n, n), "0"},
		{"case l of Nil => 0 | Cons h _ => h end", "l: . List Bool", ty("Int", ty("List Bool"), n, n), "2"},
		{"case l of Nil => 0 | Cons h _ => h end", "l: . Ints", ty("Int", ty("Ints"), n, n), ""},
		{"case l of Cons _ t => t end", "l: . List Int", ty("List Int", l, l), "ok"},
		{"case l of Cons x => 1 end", "l: . List Int", ty("Int", l, n), ""},
		{"case l of Nil x => 1 end", "l: . List Int", ty("Int", l, n), ""},
		{"case l of Nope => 1 end", "l: . List Int", ty("Int", l, n), ""},
		{"case l of Cons x x => 1 end", "l: . List Int", ty("Int", l, n), ""},
		{"case l of Cons x y => 1 | Cons y x => 1 end", "l: . List Int", ty("Int", l, n, n), "ok"},
		{"case p of P (a, b) (Cons (O f) _) => f (a b) end", "p: . Pair (Bool -> Int, Bool) (List Op)",
			ty("Int", ty("Pair (Bool -> Int, Bool) (List Op)"), ty("Int", ty("Int -> Int"), ty("Int", ty("Bool -> Int"), yes))), "ok"},
		{"case p of P (a, b) (Cons (O f) _) => f (a b) end", "p: . Pair (Bool -> Int, Bool) (List Op)",
			ty("Int", ty("Pair (Bool -> Int, Bool) (List Op)"), ty("Int", ty("Bool -> Int"), ty("Bool", ty("Bool -> Bool"), yes))), "1 0"},
		{"case p of (a, b, c) => c end", "p: . (Int, Bool, 'a)", ty("'a", ty("(Int, Bool, 'a)"), ty("'a")), "ok"},
		{"case p of (a, b) => a end", "p: . (Int, Bool, 'a)", ty("Int", ty("(Int, Bool, 'a)"), n), ""},
		{"case x of x => x end", "x: . Int", ty("Int", n, n), "ok"},
		{"case p of (x, _) => x end", "p: . (Int, Bool); x: . Bool", ty("Int", ty("(Int, Bool)"), n), "ok"},
		{"if True then 1 else 2", "", ty("Int", yes, n, n), "ok"},
		{"if 1 then 1 else 2", "", ty("Int", n, n, n), ""},
		{"case 1 of x => x end", "", inst(ty("Int", n, n), "Int"), ""},
		{"case 1 of x => x end", "", ty("Int", n), ""},
	})
}

// P4.1: types of Args are taken as they are by the row of a node, and looked at in their own.
func TestUnknownArgs(t *testing.T) {
	unknown := api.Typed{Type: api.Type{Name: "Nope"}}
	odd := api.Typed{Type: api.Type{Name: ",", Args: []api.Type{theInt(), {Name: "->"}}}}
	n := ty("Int")
	function := func(arg api.Type) api.Typed { return api.Typed{Type: to(arg, theInt())} }
	checkRules(t, []ruled{
		{"let x = y in 1", "y: . Int", ty("Int", unknown, n), "0"},
		{"f y", "y: . Int", ty("Int", function(unknown.Type), unknown), "0"},
		{"f y", "y: . Int", ty("Int", function(odd.Type), odd), "0"},
		{"f y", "y: . Int", ty("Int", function(odd.Type), unknown), ""},
		{"f y", "y: . Int", ty("Int", function(endless(2)), api.Typed{Type: endless(3)}), "0"},
		{"f y", "y: . Int", ty("Int", function(chain(300, "Int")), api.Typed{Type: chain(300, "Int")}), "0"},
		{"f y", "y: . Int", ty("Int", function(chain(300, "Int")), api.Typed{Type: chain(300, "'a")}), ""},
		{"f y", "y: . Int", ty("Int", function(chain(300, "Int")), api.Typed{Type: chain(301, "Int")}), ""},
		{"f y", "y: . Int", ty("Int", function(endless(2)), api.Typed{Type: chain(300, "Int")}), ""},
		{"let x = y in 1", "y: . Int", ty("Int", api.Typed{Type: endless(1)}, n), "0"},
		{"let x = y in 1", "y: . Int", ty("Int", api.Typed{Type: chain(101, "Int")}, n), "0"},
		{"let x = y in 1", "y: . " + show(chain(100, "Int")), ty("Int", api.Typed{Type: chain(100, "Int")}, n), "ok"},
	})
}

// P4.1: Bind has an error for a type that is not known, so the row of an ECase that looks at one does not hold, whatever its patterns are.
func TestCaseOfUnknown(t *testing.T) {
	n := ty("Int")
	unknown := []api.Type{
		{}, {Name: "Nope"}, {Name: "List"}, {Name: "Int", Args: typs("Int")},
		{Name: ",", Args: []api.Type{theInt(), {Name: "->"}}}, {Name: ",", Args: []api.Type{theInt(), {Name: "Nope"}}},
		endless(1), endless(2), chain(101, "Int"),
	}
	for _, u := range unknown {
		for _, p := range []string{"_", "x", "(_, x)", "True"} {
			text := "case y of " + p + " => 1 end"
			checkRules(t, []ruled{
				{text, "y: . Int", ty("Int", api.Typed{Type: u}, n), ""},
				{"2 + (" + text + ")", "y: . Int", ty("Int", n, ty("Int", api.Typed{Type: u}, n)), "1"},
			})
			if l, e := Bind(datas(library), pat(p), u); e != api.ErrArg || len(l) > 0 {
				t.Errorf("Bind(%s) of a type that is not known = %v, %v", p, l, e)
			}
		}
	}
	checkRules(t, []ruled{
		{"case y of _ => 1 | x => 2 end", "y: . Int", ty("Int", ty("Bool"), n, n), "0"},
		{"case y of _ => 1 | x => 2 end", "y: . Int", ty("Int", api.Typed{Type: chain(100, "Int")}, n, n), "0"},
	})
}

// P4.1: deep types that share their parts are compared fast.
func TestSharedParts(t *testing.T) {
	long := func(end api.Type) api.Type {
		u := end
		for range 120 {
			u = api.Type{Name: "List", Args: []api.Type{u}}
		}
		return u
	}
	x := ty("Int", api.Typed{Type: to(long(vast(200)), theInt())}, api.Typed{Type: long(vast(200))})
	path, e := Step(datas(library), env("y: . Int"), expr("f y"), x)
	if e != api.ErrStep || !slices.Equal(path, []int{0}) {
		t.Errorf("Step: %d at %v", e, path)
	}
	x.Args[1].Type = long(vast(201))
	path, e = Step(datas(library), env("y: . Int"), expr("f y"), x)
	if e != api.ErrStep || len(path) > 0 {
		t.Errorf("Step: %d at %v", e, path)
	}
}

// nest returns types of an expression with as many types as are asked for, itself included.
func nest(n int) api.Typed {
	x := ty("Int")
	for len(x.Args) < n-1 {
		x.Args = append(x.Args, ty("Int"))
	}
	return x
}

// P4.1: the errors of Step, in their order.
func TestStepErrors(t *testing.T) {
	ds, one := datas(library), expr("1")
	bad := api.Expr{Kind: api.EVar}
	deep := one
	for range 100 {
		deep = api.Expr{Kind: api.EFn, Arg: "x", Args: []api.Expr{deep}}
	}
	many := make([]api.Named, api.MaxNodes+1)
	for i := range many {
		many[i] = sole("x", theInt())
	}
	broken := []api.Data{{Name: "A"}, {Name: "A"}}
	round := ty("Int", ty("Int"))
	round.Args[0] = round
	for _, c := range []struct {
		what string
		ds   []api.Data
		env  []api.Named
		e    api.Expr
		x    api.Typed
		want api.Errno
	}{
		{"a shape", broken, many, bad, nest(60001), api.ErrShape},
		{"a deep one", broken, many, deep, nest(60001), api.ErrDeep},
		{"60001 types", broken, many, one, nest(60001), api.ErrLong},
		{"types without an end", ds, nil, one, round, api.ErrLong},
		{"60000 types", ds, nil, one, nest(60000), api.ErrStep},
		{"2001 names", ds, many, one, ty("Int"), api.ErrArg},
		{"2000 names", ds, many[1:], one, ty("Int"), api.OK},
		{"2001 names before a wrong step", ds, many, one, ty("Bool"), api.ErrArg},
		{"a scheme that is not valid", ds, env("x: 'a. Int"), one, ty("Int"), api.ErrArg},
		{"a variable twice", ds, env("x: 'a 'a. 'a"), one, ty("Int"), api.ErrArg},
		{"an empty scheme", ds, []api.Named{{Name: "x"}}, one, ty("Int"), api.ErrArg},
		{"a type that is not known", ds, env("x: . List (Pair Int Nope)"), one, ty("Int"), api.ErrArg},
		{"another number of Args", ds, env("x: . List"), one, ty("Int"), api.ErrArg},
		{"a type without an end", ds, []api.Named{sole("x", endless(2))}, one, ty("Int"), api.ErrArg},
		{"free variables", ds, env("x: 'a. 'a -> 'b"), one, ty("Int"), api.OK},
		{"a name that is none", ds, []api.Named{sole("?", theInt())}, one, ty("Int"), api.OK},
		{"two data types", broken, nil, one, ty("Int"), api.ErrArg},
		{"two constructors", []api.Data{{Name: "A", Cons: []api.Con{{Name: "C"}}}, {Name: "B", Cons: []api.Con{{Name: "C"}}}}, nil, one, ty("Int"), api.ErrArg},
		{"two constructors of one", []api.Data{{Name: "A", Cons: []api.Con{{Name: "C"}, {Name: "C"}}}}, nil, one, ty("Int"), api.ErrArg},
		{"a field that is not known", []api.Data{{Name: "A", Cons: []api.Con{{Name: "C", Args: typs("Nope")}}}}, nil, one, ty("Int"), api.ErrArg},
		{"a field that is not valid", []api.Data{{Name: "A", Cons: []api.Con{{Name: "C", Args: []api.Type{{}}}}}}, nil, one, ty("Int"), api.ErrArg},
		{"a field with other Args", []api.Data{{Name: "A", Vars: []string{"'a"}, Cons: []api.Con{{Name: "C", Args: typs("A")}}}}, nil, one, ty("Int"), api.ErrArg},
		{"a field with a free variable", []api.Data{{Name: "A", Cons: []api.Con{{Name: "C", Args: typs("'a")}}}}, nil, one, ty("Int"), api.OK},
		{"no data types", nil, nil, one, ty("Int"), api.OK},
		{"no Bool", nil, nil, expr("1 < 2"), ty("Bool", ty("Int"), ty("Int")), api.ErrStep},
	} {
		path, e := Step(c.ds, c.env, c.e, c.x)
		errs(t, c.what, e, c.want)
		if len(path) > 0 {
			t.Errorf("%s: %v", c.what, path)
		}
	}
}

// P4.1: a field with a free variable keeps it.
func TestFreeField(t *testing.T) {
	ds := []api.Data{{Name: "A", Vars: []string{"'b"}, Cons: []api.Con{{Name: "C", Args: typs("'a", "'b")}}}}
	l, e := Bind(ds, pat("C x y"), typ("A Int"))
	if showNamed(l) != "x: . 'a; y: . Int" || e != api.OK {
		t.Errorf("Bind: %s, %d", showNamed(l), e)
	}
	for first, want := range map[string]api.Errno{"'a": api.OK, "Int": api.ErrStep} {
		_, e := Step(ds, env("x: . "+first), expr("C x 1"), ty("A Int", ty(first), ty("Int")))
		errs(t, first, e, want)
	}
}

// P4.1: Bind.
func TestBind(t *testing.T) {
	ds := datas(library)
	for _, c := range []struct {
		pat, t, want string
		e            api.Errno
	}{
		{"_", "Int", "", api.OK},
		{"x", "Int", "x: . Int", api.OK},
		{"x", "'a -> 'b", "x: . 'a -> 'b", api.OK},
		{"(x, y)", "('a, List Int)", "x: . 'a; y: . List Int", api.OK},
		{"(y, _, x)", "(Int, Bool, Op)", "y: . Int; x: . Op", api.OK},
		{"(x, y)", "(Int, Int, Int)", "", api.ErrStep},
		{"(x, y)", "Pair Int Int", "", api.ErrStep},
		{"(x, y)", "'a", "", api.ErrStep},
		{"Nil", "List Int", "", api.OK},
		{"Nil", "Ints", "", api.ErrStep},
		{"Nil", "'a", "", api.ErrStep},
		{"Cons x y", "List (Int, 'a)", "x: . (Int, 'a); y: . List (Int, 'a)", api.OK},
		{"Cons (Cons z _) (Cons x y)", "List (List Bool)", "z: . Bool; x: . List Bool; y: . List (List Bool)", api.OK},
		{"P b a", "Pair 'b 'a", "b: . 'b; a: . 'a", api.OK},
		{"O f", "Op", "f: . Int -> Int", api.OK},
		{"Cons x", "List Int", "", api.ErrStep},
		{"Cons x y z", "List Int", "", api.ErrStep},
		{"Nope", "List Int", "", api.ErrStep},
		{"Cons x x", "List Int", "", api.ErrTwice},
		{"P (x, y) (Cons z x)", "Pair (Int, Int) (List Int)", "", api.ErrTwice},
		{"P (x, y) (Cons z x)", "Pair (Int, Int) Ints", "", api.ErrStep},
		{"x", "Nope", "", api.ErrArg},
		{"Nope", "List (Pair Int)", "", api.ErrArg},
	} {
		l, e := Bind(ds, pat(c.pat), typ(c.t))
		errs(t, c.pat+" of "+c.t, e, c.e)
		if showNamed(l) != c.want {
			t.Errorf("Bind of %s and %s: %s, expected %s", c.pat, c.t, showNamed(l), c.want)
		}
	}
}

// P4.1: the other errors of Bind, in their order.
func TestBindErrors(t *testing.T) {
	good, broken := datas(library), []api.Data{{Name: "A"}, {Name: "A"}}
	deep := pat("x")
	for range 100 {
		deep = api.Pat{Kind: api.PCon, Name: "C", Args: []api.Pat{deep}}
	}
	for i, c := range []struct {
		ds   []api.Data
		p    api.Pat
		t    api.Type
		want api.Errno
	}{
		{broken, api.Pat{}, api.Type{}, api.ErrShape},
		{broken, deep, api.Type{}, api.ErrDeep},
		{broken, pat("x"), theInt(), api.ErrArg},
		{good, pat("x"), api.Type{}, api.ErrArg},
		{good, pat("x"), endless(3), api.ErrArg},
		{good, pat("x"), vast(300), api.ErrArg},
		{good, pat("x"), chain(101, "Int"), api.ErrArg},
		{good, pat("x"), chain(100, "Int"), api.OK},
		{nil, pat("x"), theInt(), api.OK},
		{nil, pat("True"), typ("Bool"), api.ErrArg},
		{good, pat("True"), typ("Bool"), api.OK},
	} {
		_, e := Bind(c.ds, c.p, c.t)
		errs(t, i, e, c.want)
	}
}

// P4.1: the type of a variable may be greater than a valid one; one that is too great for any result is never built.
func TestBindGreat(t *testing.T) {
	ds := []api.Data{{Name: "D", Vars: []string{"'a"}, Cons: []api.Con{{Name: "C", Args: typs("D ('a, 'a)", "'a")}}}}
	nested := func(deep int, end string) api.Pat {
		p := pat(end)
		for range deep {
			p = api.Pat{Kind: api.PCon, Name: "C", Args: []api.Pat{p, pat("_")}}
		}
		return p
	}
	l, e := Bind(ds, nested(12, "x"), typ("D Int"))
	if e != api.OK || len(l) != 1 || len(key(l[0].Scheme.Type)) < 5*4096 {
		t.Errorf("Bind of 12: %d", e)
	}
	if l, e := Bind(ds, nested(90, "_"), typ("D Int")); e != api.OK || len(l) > 0 {
		t.Errorf("Bind of 90 without a variable: %d", e)
	}
	Bind(ds, nested(90, "x"), typ("D Int"))
	// What is not used may be great.
	c := api.Expr{Kind: api.ECase, Pats: []api.Pat{nested(90, "x")}, Args: []api.Expr{expr("d"), expr("1")}}
	path, e := Step(ds, env("d: . D Int"), c, ty("Int", ty("D Int"), ty("Int")))
	errs(t, path, e, api.OK)
	c.Args[1] = expr("x")
	path, e = Step(ds, env("d: . D Int"), c, ty("D Int", ty("D Int"), ty("D Int")))
	if e != api.ErrStep || !slices.Equal(path, []int{1}) {
		t.Errorf("Step: %d at %v", e, path)
	}
}
