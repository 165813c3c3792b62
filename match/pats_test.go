package match

import (
	"strconv"
	"strings"
	"testing"

	"restitch/api"
)

// P5.1: which patterns are valid for a type.
func TestCheckPat(t *testing.T) {
	ds := datas(library)
	for _, c := range []struct {
		kind, pat string
		want      api.Errno
	}{
		{"List Int", "Cons x (Cons y _)", api.OK},
		{"List Int", "Cons x x", api.ErrVars},
		{"List Int", "Cons x", api.ErrPat},
		{"Int", "Nil", api.ErrPat},
		{"Int", "x", api.OK},
		{"'a", "_", api.OK},
		{"'a", "Nil", api.ErrPat},
		{"'a", "(x, y)", api.ErrPat},
		{"Int -> Int", "f", api.OK},
		{"Int -> Int", "(f, g)", api.ErrPat},
		{"Bool", "True", api.OK},
		{"Bool", "True x", api.ErrPat},
		{"Bool", "Leaf", api.ErrPat},
		{"(Int, Bool)", "(x, False)", api.OK},
		{"(Int, Bool)", "(False, x)", api.ErrPat},
		{"(Int, Bool)", "(x, y, z)", api.ErrPat},
		{"(Int, Bool, Int)", "(x, y)", api.ErrPat},
		{"(Int, Bool)", "(x, x)", api.ErrVars},
		{"List (List 'a)", "Cons (Cons x y) (Cons Nil z)", api.OK},
		{"List (List 'a)", "Cons (Cons x y) (Cons Nil x)", api.ErrVars},
		{"List Int", "Cons Nil x", api.ErrPat},
		{"Both (List Int)", "Two (Nil, Cons x _)", api.OK},
		{"Both (List Int)", "Two Nil Nil", api.ErrPat},
		{"List Int", "Node _ _ _", api.ErrPat},
		{"List Int", "Cons x (Cons x)", api.ErrPat},
		{"List Int", "Cons x (Cons x (Cons Nil _))", api.ErrPat},
		{"List X", "Cons x x", api.ErrData},
		{"List", "_", api.ErrData},
	} {
		errs(t, c, CheckPat(ds, typ(c.kind), pat(c.pat)), c.want)
	}
	errs(t, "wrong declarations", CheckPat(datas("data X = A | A;"), typ("Int"), pat("x")), api.ErrData)
}

// P5.1: patterns of no form.
func TestCheckPatForms(t *testing.T) {
	ds := datas(library)
	for _, p := range []api.Pat{
		{}, {Kind: -1}, {Kind: 4}, {Kind: 4, Name: "Nil"},
		{Kind: api.PWild, Name: "x"}, {Kind: api.PWild, Args: pats("_")},
		{Kind: api.PVar}, {Kind: api.PVar, Name: "Nil"}, {Kind: api.PVar, Name: "_"}, {Kind: api.PVar, Name: "case"}, {Kind: api.PVar, Name: "x", Args: pats("_")},
		con(""), con("nil"), con("Nil", wild()), con(","), con(",", wild(), wild()), con("Cons", wild(), api.Pat{}),
		con("Cons", api.Pat{Kind: 4}, wild()), con("Cons", wild(), api.Pat{Kind: 4, Name: "Nil"}),
	} {
		errs(t, p, CheckPat(ds, typ("List Int"), p), api.ErrPat)
		errs(t, p, CheckPats(ds, typ("List Int"), []api.Pat{wild(), p}), api.ErrPat)
	}
}

// P5.1: deep patterns, and the order of errors.
func TestCheckPatDeep(t *testing.T) {
	ds, list := datas(library), typ("List Int")
	errs(t, "100 deep", CheckPat(ds, list, nested(100)), api.OK)
	errs(t, "101 deep", CheckPat(ds, list, nested(101)), api.ErrDeep)
	errs(t, "a type that is wrong", CheckPat(ds, typ("List"), nested(101)), api.ErrData)
	deepWild := api.Pat{Kind: api.PWild, Args: []api.Pat{nested(100)}}
	errs(t, "deep within _", CheckPat(ds, list, deepWild), api.ErrDeep)
	errs(t, "deep, and wrong", CheckPat(ds, list, con("Cons", named("X"), nested(100))), api.ErrDeep)
	errs(t, "wrong, and twice", CheckPat(ds, list, con("Cons", named("x"), con("Cons", named("x"), named("X")))), api.ErrPat)
	errs(t, "endless", CheckPat(ds, list, endlessPat("Cons")), api.ErrDeep)
	for _, deep := range []int{2, 40, 100} {
		u := vastType(deep, typ("Int"))
		errs(t, "vast", CheckPat(ds, u, vastPat(deep, wild())), api.OK)
		errs(t, "vast, with a variable", CheckPat(ds, u, vastPat(deep, named("x"))), api.ErrVars)
		errs(t, "vast, wrong", CheckPat(ds, u, vastPat(deep, con("Nil"))), api.ErrPat)
		errs(t, "vast, of no type", CheckPat(ds, u, vastPat(deep+1, wild())), map[bool]api.Errno{false: api.ErrPat, true: api.ErrDeep}[deep == 100])
	}
	// One list of Args may stand at two types.
	shared := []api.Pat{con("Nil"), wild()}
	both := typ("(List Int, List (List Int))")
	errs(t, "shared", CheckPat(ds, both, con(",", wild(), con("Cons", shared...))), api.OK)
	errs(t, "shared by two types", CheckPat(ds, both, con(",", con("Cons", shared...), con("Cons", shared...))), api.ErrPat)
	errs(t, "shared by two types", CheckPat(ds, typ("(List (List Int), List Int)"), con(",", con("Cons", shared...), con("Cons", shared...))), api.ErrPat)
}

// wide returns a pattern of a list with some patterns altogether, an odd number.
func wide(n int) api.Pat { return nested((n + 1) / 2) }

// P5.1: lists of patterns.
func TestCheckPats(t *testing.T) {
	ds, list := datas(library), typ("List Int")
	check := func(what string, want api.Errno, l ...api.Pat) {
		t.Helper()
		errs(t, what, CheckPats(ds, list, l), want)
		if want != api.OK {
			_, covers, e := Covers(ds, list, l)
			errs(t, what, e, want)
			useless, e := Useless(ds, list, l)
			errs(t, what, e, want)
			tree, e := Compile(ds, list, l)
			errs(t, what, e, want)
			errs(t, what, CheckWitness(ds, list, l, endlessPat("X")), want)
			errs(t, what, CheckTree(ds, list, l, api.Tree{Arm: -1}), want)
			if covers || useless != nil || showTree(tree) != "0" {
				t.Errorf("%s: a result with an error", what)
			}
		}
	}
	check("one", api.OK, wild())
	check("12", api.OK, many(12, func(int) api.Pat { return wild() })...)
	check("13", api.ErrLong, many(13, func(int) api.Pat { return wild() })...)
	check("none", api.ErrPat)
	check("120", api.OK, wide(101), wide(19))
	check("121", api.ErrLong, wide(101), wide(19), wild())
	check("variables before another one is deep", api.ErrVars, pat("Cons x x"), api.Pat{})
	check("variables of two patterns", api.OK, pat("Cons x _"), pat("Cons _ x"))
	check("long, wrong", api.ErrLong, api.Pat{}, con("X", many(120, func(int) api.Pat { return api.Pat{} })...))
	check("119 within, wrong", api.ErrPat, con("X", many(119, func(int) api.Pat { return api.Pat{} })...))
	check("Args of a variable", api.ErrLong, api.Pat{Kind: api.PVar, Name: "x", Args: many(120, func(int) api.Pat { return wild() })})
	check("Args of no kind", api.ErrLong, api.Pat{Kind: 9, Args: many(120, func(int) api.Pat { return wild() })})
	check("endless", api.ErrLong, wild(), endlessPat("Cons"))
	check("vast", api.ErrLong, vastPat(100, wild()))
	check("many", api.ErrLong, make([]api.Pat, 1000)...)
	for _, u := range []api.Type{typ("List"), {}, endlessType()} {
		errs(t, "a wrong type", CheckPats(ds, u, make([]api.Pat, 13)), api.ErrData)
		errs(t, "a wrong type", CheckPats(ds, u, nil), api.ErrData)
	}
	errs(t, "wrong declarations", CheckPats(make([]api.Data, 1), list, nil), api.ErrData)
}

// P5.1: the patterns of a list are less deep than others.
func TestCheckPatsDeep(t *testing.T) {
	ds := datas(library)
	check := func(what string, want api.Errno, l ...api.Pat) {
		t.Helper()
		errs(t, what, CheckPats(ds, typ("Stream"), l), want)
		_, _, e := Covers(ds, typ("Stream"), l)
		errs(t, what, e, want)
	}
	check("60 deep", api.OK, streams(60, wild()), wild())
	check("61 deep", api.ErrDeep, streams(61, wild()), wild())
	check("the second one", api.ErrDeep, wild(), streams(61, wild()))
	check("101 deep", api.ErrDeep, streams(101, wild()), wild())
	check("120 of one field", api.OK, streams(60, wild()), streams(60, wild()))
	check("121 of one field", api.ErrLong, streams(60, wild()), streams(60, wild()), wild())
	check("deep and wrong", api.ErrDeep, streams(61, api.Pat{}), api.Pat{})
	check("deep within _", api.ErrDeep, api.Pat{Kind: api.PWild, Args: []api.Pat{streams(60, wild())}})
	check("wrong before another one is deep", api.ErrPat, api.Pat{}, streams(61, wild()))
	check("wrong within, before another one is deep", api.ErrPat, streams(10, con("S")), streams(61, wild()))
	errs(t, "a single one", CheckPat(ds, typ("Stream"), streams(61, wild())), api.OK)
}

// streams returns a pattern of a stream with a number of patterns within each other.
func streams(deep int, end api.Pat) api.Pat {
	for range deep - 1 {
		end = con("S", end)
	}
	return end
}

// P5.1: functions return ErrData first.
func TestErrData(t *testing.T) {
	for _, c := range []struct {
		ds   []api.Data
		kind api.Type
	}{
		{make([]api.Data, 1), typ("Int")},
		{datas(library), typ("X")},
		{nil, api.Type{}},
	} {
		l := make([]api.Pat, 200)
		_, _, e := Covers(c.ds, c.kind, l)
		errs(t, "Covers", e, api.ErrData)
		_, e = Useless(c.ds, c.kind, l)
		errs(t, "Useless", e, api.ErrData)
		_, e = Compile(c.ds, c.kind, l)
		errs(t, "Compile", e, api.ErrData)
		errs(t, "CheckWitness", CheckWitness(c.ds, c.kind, l, api.Pat{}), api.ErrData)
		errs(t, "CheckTree", CheckTree(c.ds, c.kind, l, api.Tree{}), api.ErrData)
		errs(t, "CheckPat", CheckPat(c.ds, c.kind, endlessPat("Nil")), api.ErrData)
	}
}

// P5.1: the variables of any pattern.
func TestVariables(t *testing.T) {
	for text, want := range map[string]string{
		"_": "", "x": "x", "Nil": "", "Cons x (Cons y _)": "x y", "(x, (y, z), x)": "x y z x", "X (Y b) a": "b a",
	} {
		same(t, text, strings.Join(Variables(pat(text)), " "), want)
	}
	odd := con("", api.Pat{Kind: api.PWild, Args: pats("x")}, api.Pat{Kind: api.PVar, Name: "Odd one", Args: pats("y")}, api.Pat{Kind: 7, Name: "z", Args: pats("z")}, named(""))
	same(t, "Args of others", strings.Join(Variables(odd), "|"), "Odd one|")
	if len(Variables(odd)) != 2 {
		t.Error("an empty name is one too")
	}
	p := con("X", many(130, func(k int) api.Pat { return named("x" + strconv.Itoa(k)) })...)
	got := Variables(p)
	if len(got) != 120 || got[0] != "x0" || got[119] != "x119" {
		t.Errorf("%d of 130 variables", len(got))
	}
	wilds := con("X", append(many(500, func(int) api.Pat { return wild() }), named("x"))...)
	same(t, "behind 500 others", strings.Join(Variables(wilds), " "), "x")
}

// deepVar returns a variable with a number of constructors around it.
func deepVar(around int) api.Pat {
	p := named("x")
	for range around {
		p = con("X", wild(), p)
	}
	return p
}

// P5.1: what is too deep is not looked at; patterns may be very many, in little memory.
func TestVariablesDeep(t *testing.T) {
	same(t, "at 100", strings.Join(Variables(deepVar(99)), " "), "x")
	same(t, "at 101", strings.Join(Variables(deepVar(100)), " "), "")
	same(t, "at 5000", strings.Join(Variables(deepVar(4999)), " "), "")
	same(t, "one is at 101", strings.Join(Variables(con("X", deepVar(99), named("y"))), " "), "y")
	same(t, "endless", strings.Join(Variables(endlessPat("X")), " "), "")
	same(t, "vast", strings.Join(Variables(vastPat(100, wild())), " "), "")
	if got := Variables(vastPat(100, named("x"))); len(got) != 120 {
		t.Errorf("%d variables of very many", len(got))
	}
	loop := con("X", named("x"), wild())
	loop.Args[1] = loop
	if got := Variables(loop); len(got) != 99 {
		t.Errorf("%d variables of an endless pattern", len(got))
	}
	// What has no variable at one depth may have one where more of it is looked at.
	part := deepVar(50)
	far := part
	for range 60 {
		far = con("X", far)
	}
	same(t, "shared", strings.Join(Variables(con("X", far, con("X", part.Args...))), " "), "x")
}

// P5.1: variables with their paths.
func TestSlots(t *testing.T) {
	for text, want := range map[string]string{
		"Cons x (Cons y _)": "x at 0, y at 1 0", "_": "", "x": "x at ", "(a, (b, c), a)": "a at 0, b at 1 0, c at 1 1, a at 2",
	} {
		got, e := Slots(pat(text))
		errs(t, text, e, api.OK)
		same(t, text, showSlots(got), want)
	}
	check := func(what string, p api.Pat, count int, want api.Errno) {
		t.Helper()
		got, e := Slots(p)
		errs(t, what, e, want)
		if len(got) != count {
			t.Errorf("%s: %d variables, expected %d", what, len(got), count)
		}
	}
	vars := func(n int) api.Pat { return con("X", many(n, func(int) api.Pat { return named("x") })...) }
	check("120", vars(119), 119, api.OK)
	check("121", vars(120), 0, api.ErrLong)
	check("121 without variables", con("X", many(120, func(int) api.Pat { return wild() })...), 0, api.ErrLong)
	check("100 deep", con("X", con("X", chainPat(98))), 1, api.OK)
	check("101 deep", chainPat(101), 0, api.ErrDeep)
	check("120 in two", con("X", chainPat(60), chainPat(59)), 2, api.OK)
	check("121 in two", con("X", chainPat(60), chainPat(60)), 0, api.ErrLong)
	check("101 deep, and long", con("X", append(many(200, func(int) api.Pat { return wild() }), chainPat(100))...), 0, api.ErrDeep)
	check("endless", endlessPat("X"), 0, api.ErrDeep)
	check("vast", vastPat(100, named("x")), 0, api.ErrLong)
	check("very deep", chainPat(100000), 0, api.ErrDeep)
	check("other kinds", con("X", api.Pat{Kind: 8, Args: pats("x")}, api.Pat{Kind: api.PWild, Args: pats("x")}), 0, api.OK)
}

// chainPat returns a variable in constructors of one field, deep patterns altogether.
func chainPat(deep int) api.Pat {
	p := named("x")
	for range deep - 1 {
		p = con("X", p)
	}
	return p
}

// P5.1: paths are new memory, each its own.
func TestSlotsNew(t *testing.T) {
	got, _ := Slots(pat("(a, (b, (c, d)), e)"))
	for i := range got {
		before := showSlots(append(append([]api.Slot(nil), got[:i]...), got[i+1:]...))
		path := got[i].Path
		path = append(path, 77)
		for k := range path {
			path[k] = 99
		}
		same(t, got[i].Name, showSlots(append(append([]api.Slot(nil), got[:i]...), got[i+1:]...)), before)
	}
}
