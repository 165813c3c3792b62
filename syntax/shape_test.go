package syntax

import (
	"slices"
	"testing"

	"restitch/api"
	"restitch/lex"
)

func deepExpr(depth int) api.Expr {
	return repeat(depth-1, num(1), func(e api.Expr) api.Expr { return fn("x", e) })
}

func deepPat(depth int) api.Pat {
	return repeat(depth-1, wild(), func(p api.Pat) api.Pat { return match("A", p) })
}

func deepType(depth int) api.Type {
	return repeat(depth-1, typ("Int"), func(t api.Type) api.Type { return typ("T", t) })
}

// wide is an expression of a number of nodes, at most 15 deep.
func wide(nodes int) api.Expr {
	if nodes <= api.MaxArms {
		return con("A", times(nodes-1, num(1))...)
	}
	half := (nodes - 1) / 2
	return app(wide(half), wide(nodes-1-half))
}

// someNames are names of all sorts, and texts that are none.
var someNames = []string{"", "x", "A", "'a", ",", "->", "+", "-", "*", "/", "%", "<", "=", "=>", "_", "in", "x'1", "B'2", "x'", "'A", "1", "x y", " x", "x(**)", "(", longName, longName + "n", "A" + longName}

// someCounts are how many elements lists have.
var someCounts = []int{0, 1, 2, 3, 4, 5, 15, 16, 17}

// between reports whether a count is allowed.
func between(n, least, most int) bool { return n >= least && n <= most }

// tupleOr reports whether a node with a constructor, or a tuple, is well formed.
func tupleOr(name string, n int) bool {
	return lex.IsCon(name) && n <= api.MaxArms || name == "," && between(n, 2, 4)
}

// shaped says of an expression without regard to what is within it what the table of the chapter says.
func shaped(e api.Expr) bool {
	type row struct {
		num        bool
		name, arg  func(string) bool
		args, pats bool
	}
	none := func(s string) bool { return s == "" }
	sign := func(s string) bool { return slices.Contains([]string{"+", "-", "*", "/", "%", "<", "="}, s) }
	any := func(string) bool { return true }
	n, m := len(e.Args), len(e.Pats)
	r, ok := map[int]row{
		1: {true, none, none, n == 0, m == 0},
		2: {false, lex.IsName, none, n == 0, m == 0},
		3: {false, any, none, tupleOr(e.Name, n), m == 0},
		4: {false, none, none, n == 2, m == 0},
		5: {false, none, lex.IsName, n == 1, m == 0},
		6: {false, lex.IsName, none, n == 2, m == 0},
		7: {false, lex.IsName, lex.IsName, n == 2, m == 0},
		8: {false, none, none, n == m+1, between(m, 1, api.MaxArms)},
		9: {false, sign, none, n == 2, m == 0},
	}[e.Kind]
	return ok && (r.num || e.Num == 0) && r.name(e.Name) && r.arg(e.Arg) && r.args && r.pats
}

// P2.1: which expressions are well formed.
func TestExprShape(t *testing.T) {
	good := 0
	look := func(e api.Expr) {
		want := api.ErrShape
		if shaped(e) {
			want = api.OK
			good++
		}
		if got := CheckExpr(e); got != want {
			t.Fatalf("CheckExpr(%+v) = %v; expected %v", e, got, want)
		}
		if text, got := PrintExpr(e); got != want || (text == "") != (got != api.OK) {
			t.Fatalf("PrintExpr(%+v) = %q, %v; expected %v", e, text, got, want)
		}
	}
	for kind := -1; kind < 11; kind++ {
		for _, name := range someNames {
			for _, arg := range []string{"", "x", "A", "in", "+"} {
				for _, n := range someCounts {
					look(api.Expr{Kind: kind, Name: name, Arg: arg, Args: times(n, num(1))})
					look(api.Expr{Kind: kind, Name: name, Arg: arg, Args: times(n, num(1)), Pats: times(max(n-1, 0), wild())})
				}
			}
			look(api.Expr{Kind: kind, Num: 1, Name: name})
			look(api.Expr{Kind: kind, Num: 1, Name: name, Args: times(2, num(1))})
			look(api.Expr{Kind: kind, Num: 1, Name: name, Arg: "x", Args: times(2, num(1)), Pats: times(1, wild())})
		}
		for _, n := range someCounts {
			for _, m := range someCounts {
				look(api.Expr{Kind: kind, Args: times(n, num(1)), Pats: times(m, wild())})
				look(api.Expr{Kind: kind, Num: -1, Args: times(n, num(1)), Pats: times(m, wild())})
			}
		}
	}
	if good < 40 {
		t.Errorf("just %d expressions are well formed", good)
	}
}

// P2.1: which types and patterns are well formed.
func TestTypeAndPatShape(t *testing.T) {
	for _, name := range someNames {
		for _, n := range someCounts {
			want := api.ErrShape
			if tupleOr(name, n) || lex.IsVar(name) && n == 0 || name == "->" && n == 2 {
				want = api.OK
			}
			x := typ(name, times(n, typ("Int"))...)
			if got := CheckType(x); got != want {
				t.Errorf("CheckType(%+v) = %v; expected %v", x, got, want)
			}
			if text, got := PrintType(x); got != want || (text == "") != (got != api.OK) {
				t.Errorf("PrintType(%+v) = %q, %v; expected %v", x, text, got, want)
			}
			for kind := -1; kind < 5; kind++ {
				want := api.ErrShape
				if kind == 1 && name == "" && n == 0 || kind == 2 && lex.IsName(name) && n == 0 || kind == 3 && tupleOr(name, n) {
					want = api.OK
				}
				p := api.Pat{Kind: kind, Name: name, Args: times(n, wild())}
				if got := CheckPat(p); got != want {
					t.Errorf("CheckPat(%+v) = %v; expected %v", p, got, want)
				}
				if text, got := PrintPat(p); got != want || (text == "") != (got != api.OK) {
					t.Errorf("PrintPat(%+v) = %q, %v; expected %v", p, text, got, want)
				}
			}
		}
	}
}

// P2.1: a node within a tree that is not well formed makes the tree so, wherever it is.
func TestShapeWithin(t *testing.T) {
	bad, badPat, badType := ref("X"), bound("X"), typ("x")
	for _, e := range around(around([]api.Expr{bad})) {
		if got := CheckExpr(e); got != api.ErrShape {
			t.Fatalf("CheckExpr(%+v) = %v", e, got)
		}
	}
	good := match("A")
	for _, p := range []api.Pat{match("A", badPat), match(",", good, badPat), match("A", good, match(",", badPat, good))} {
		if got := CheckPat(p); got != api.ErrShape {
			t.Errorf("CheckPat(%+v) = %v", p, got)
		}
		if got := CheckExpr(cases([]api.Pat{good, p}, num(1), num(1), num(1))); got != api.ErrShape {
			t.Errorf("CheckExpr with %+v = %v", p, got)
		}
	}
	n := typ("Int")
	for _, x := range []api.Type{typ("T", badType), arrow(n, badType), arrow(badType, n), typ(",", n, badType), typ("T", arrow(n, typ("T", badType)))} {
		for _, p := range []api.Program{program(input("i", x)), program(data("T", nil, api.Con{Name: "A"}, api.Con{Name: "B", Args: []api.Type{n, x}}))} {
			if got := Check(p); got != api.ErrShape || CheckType(x) != api.ErrShape {
				t.Errorf("Check(%+v) = %v", p, got)
			}
		}
	}
}

// parts are the fields of a declaration: empty, as they may be, or in other forms.
func parts() (datas []api.Data, names []string, typs []api.Type, lists [][]api.Fun, bodies []api.Expr) {
	good := data("T", []string{"'a"}, api.Con{Name: "A", Args: []api.Type{typ("'a")}}).Data
	datas = []api.Data{{}, good, good, good, good, good, good, good, good, good, {Name: "T"}, {Vars: []string{"'a"}}, {Cons: good.Cons}}
	datas[2].Name = "t"
	datas[3].Vars = []string{"'a", "a"}
	datas[4].Vars = times(17, "'a")
	datas[5].Cons = nil
	datas[6].Cons = times(17, good.Cons[0])
	datas[7].Cons = []api.Con{good.Cons[0], {Name: "a"}}
	datas[8].Cons = []api.Con{{Name: "A", Args: times(17, typ("'a"))}}
	datas[9].Cons = []api.Con{{Name: ",", Args: times(2, typ("'a"))}}
	names = []string{"", "x", "X", "in"}
	typs = []api.Type{{}, typ("Int"), typ("int"), {Args: times(1, typ("Int"))}}
	f := api.Fun{Name: "f", Arg: "x", Body: num(1)}
	lists = [][]api.Fun{{}, {f}, {f, {Name: "F", Arg: "x", Body: num(1)}}, {f, {Name: "f", Arg: "X", Body: num(1)}}, {{Name: "f", Arg: "x"}}, times(17, f)}
	bodies = []api.Expr{{}, num(1), {Num: 1}, {Name: "x"}, {Arg: "x"}, {Args: times(1, num(1))}, {Pats: times(1, wild())}, ref("X"), {Kind: 10}}
	return datas, names, typs, lists, bodies
}

// P2.1: which declarations are well formed.
func TestDeclShape(t *testing.T) {
	datas, names, typs, lists, bodies := parts()
	used := map[int][5]int{1: {1, 0, 0, 0, 0}, 2: {0, 1, 1, 0, 0}, 3: {0, 0, 0, 1, 0}, 4: {0, 1, 0, 0, 1}, 5: {0, 1, 0, 0, 1}}
	good := 0
	look := func(d api.Decl, parts [5]int) {
		want := api.ErrShape
		if use, ok := used[d.Kind]; ok && use == parts {
			want = api.OK
			good++
		}
		p := program(val("x", num(1)), d)
		if got := Check(p); got != want {
			t.Fatalf("Check(%+v) = %v; expected %v", p, got, want)
		}
		if text, got := Print(p); got != want || (text == "") != (got != api.OK) {
			t.Fatalf("Print(%+v) = %q, %v; expected %v", p, text, got, want)
		}
	}
	for kind := -1; kind < 8; kind++ {
		for i, x := range datas {
			for j, name := range names {
				for k, y := range typs {
					for l, list := range lists {
						for m, body := range bodies {
							look(api.Decl{Kind: kind, Data: x, Name: name, Type: y, Funs: list, Body: body}, [5]int{i, j, k, l, m})
						}
					}
				}
			}
		}
	}
	if good != 5 {
		t.Errorf("%d declarations are well formed; expected one of each kind", good)
	}
}

// P2.1: how great a program is.
func TestSizeAndDepth(t *testing.T) {
	for i, c := range []struct {
		p           api.Program
		size, depth int
	}{
		{api.Program{}, 0, 0},
		{program(val("x", app(ref("f"), num(1)))), 3, 2},
		{program(data("T", []string{"'a"}, api.Con{Name: "A"})), 0, 0},
		{program(data("T", nil, api.Con{Name: "A"}, api.Con{Name: "B", Args: []api.Type{typ("Int"), arrow(typ("Int"), typ("T"))}})), 4, 2},
		{program(input("x", typ("T", typ("T", typ("Int"))))), 3, 3},
		{program(val("x", cases([]api.Pat{match("A", match("B", wild()))}, num(1), num(1)))), 6, 4},
		{program(output("x", cases([]api.Pat{wild()}, num(1), fn("x", fn("y", num(1)))))), 6, 4},
		{program(funs(api.Fun{Body: num(1)}, api.Fun{Body: fn("x", num(1))}), val("x", num(1))), 4, 2},
		{everyProgram(), 23, 3},
		{program(val("x", deepExpr(100))), 100, 100},
		{program(val("x", deepExpr(101))), 100, 101},
		{program(val("x", deepExpr(5000)), val("x", num(1))), 101, 101},
		{program(input("x", deepType(101)), input("x", deepType(100))), 200, 101},
		{program(val("x", cases([]api.Pat{deepPat(99)}, num(1), num(1)))), 102, 100},
		{program(val("x", cases([]api.Pat{deepPat(100)}, num(1), num(1)))), 102, 101},
		{program(val("x", wide(1999)), val("y", num(1))), 2000, 9},
		{program(val("x", wide(1999)), val("y", fn("x", num(1)))), 2001, 9},
		{program(val("x", wide(100000))), 2001, 15},
		{program(val("x", fn("x", con("A", times(100000, num(1))...)))), 2001, 3},
		{program(val("x", api.Expr{Kind: 99, Args: []api.Expr{num(1)}, Pats: []api.Pat{deepPat(3)}})), 5, 4},
		{program(api.Decl{Kind: 9, Body: num(1), Type: typ("Int")}), 0, 0},
	} {
		if s, d := Size(c.p), Depth(c.p); s != c.size || d != c.depth {
			t.Errorf("Size and Depth of the program %d = %d, %d; expected %d, %d", i, s, d, c.size, c.depth)
		}
	}
}

// P2.1: trees that are too great: ErrDeep comes before ErrLong, and this before ErrShape.
func TestLimits(t *testing.T) {
	bad := ref("X")
	for i, c := range []struct {
		e    api.Expr
		want api.Errno
	}{
		{deepExpr(100), api.OK},
		{deepExpr(101), api.ErrDeep},
		{deepExpr(100000), api.ErrDeep},
		{cases([]api.Pat{deepPat(99)}, num(1), num(1)), api.OK},
		{cases([]api.Pat{deepPat(100)}, num(1), num(1)), api.ErrDeep},
		{wide(2000), api.OK},
		{wide(2001), api.ErrLong},
		{wide(300000), api.ErrLong},
		{app(wide(2000), deepExpr(99)), api.ErrLong},
		{app(wide(2000), deepExpr(100)), api.ErrDeep},
		{app(wide(2000), bad), api.ErrLong},
		{app(bad, deepExpr(100)), api.ErrDeep},
		{con("A", times(2000, bad)...), api.ErrLong},
		{con("A", times(1999, bad)...), api.ErrShape},
	} {
		if got := CheckExpr(c.e); got != c.want {
			t.Errorf("CheckExpr of the expression %d = %v; expected %v", i, got, c.want)
		}
		if got := Check(program(val("x", c.e))); got != c.want {
			t.Errorf("Check of the expression %d = %v; expected %v", i, got, c.want)
		}
		if text, got := PrintExpr(c.e); got != c.want || (text == "") != (got != api.OK) {
			t.Errorf("PrintExpr of the expression %d = %.80q, %v; expected %v", i, text, got, c.want)
		}
	}
	for depth, want := range map[int]api.Errno{100: api.OK, 101: api.ErrDeep} {
		if p, x := CheckPat(deepPat(depth)), CheckType(deepType(depth)); p != want || x != want {
			t.Errorf("CheckPat and CheckType at the depth %d = %v, %v", depth, p, x)
		}
	}
	for nodes, want := range map[int]api.Errno{2000: api.ErrShape, 2001: api.ErrLong} {
		p, x := CheckPat(match("A", times(nodes-1, wild())...)), CheckType(typ("A", times(nodes-1, typ("Int"))...))
		if p != want || x != want {
			t.Errorf("CheckPat and CheckType of %d nodes = %v, %v", nodes, p, x)
		}
	}
}

// P2.1: how many declarations, and nodes in all of these, a program has.
func TestDeclLimits(t *testing.T) {
	d, bad := val("x", num(1)), val("X", num(1))
	for i, c := range []struct {
		p    api.Program
		want api.Errno
	}{
		{program(times(60, d)...), api.OK},
		{program(times(61, d)...), api.ErrLong},
		{program(times(61, data("T", nil, api.Con{Name: "A"}))...), api.ErrLong},
		{program(times(61, bad)...), api.ErrLong},
		{program(times(61, api.Decl{})...), api.ErrLong},
		{program(times(60, bad)...), api.ErrShape},
		{program(append(times(61, bad), val("x", deepExpr(101)))...), api.ErrDeep},
		{program(val("x", wide(1000)), val("y", wide(1000))), api.OK},
		{program(val("x", wide(1000)), output("y", wide(1000)), input("i", typ("Int"))), api.ErrLong},
		{program(val("X", wide(1000)), val("y", wide(1001))), api.ErrLong},
		{program(funs(times(16, api.Fun{Name: "f", Arg: "x", Body: wide(125)})...)), api.OK},
		{program(funs(times(16, api.Fun{Name: "f", Arg: "x", Body: wide(126)})...)), api.ErrLong},
		{program(funs(times(2001, api.Fun{Name: "f", Arg: "x", Body: num(1)})...)), api.ErrLong},
		{program(data("T", nil, times(100000, api.Con{Name: "A"})...)), api.ErrShape},
		{program(data("T", nil, times(2001, api.Con{Name: "A", Args: times(1, typ("Int"))})...)), api.ErrLong},
	} {
		if got := Check(c.p); got != c.want {
			t.Errorf("Check of the program %d = %v; expected %v", i, got, c.want)
		}
		if text, got := Print(c.p); got != c.want || (text == "") != (got != api.OK) {
			t.Errorf("Print of the program %d = %.80q, %v; expected %v", i, text, got, c.want)
		}
	}
}

// P1: trees whose lists are shared, so that they have very many nodes, or that contain themselves.
func TestSharedTrees(t *testing.T) {
	twice := func(e api.Expr) api.Expr { return op("+", e, e) }
	both := func(e api.Expr) api.Expr {
		p := repeat(60, wild(), func(p api.Pat) api.Pat { return match(",", p, p) })
		return cases([]api.Pat{p, p}, e, e, e)
	}
	known := deepExpr(98)
	endless := con("A", num(1), num(2), num(3))
	endless.Args[1], endless.Args[2] = endless, endless
	for _, c := range []struct {
		e     api.Expr
		want  api.Errno
		depth int
	}{
		{op("+", con("A", times(2000, known)...), fn("x", known)), api.ErrLong, 100},
		{op("+", con("A", times(2000, known)...), fn("x", fn("x", fn("x", fn("x", known))))), api.ErrDeep, 101},
		{repeat(99, num(1), twice), api.ErrLong, 100},
		{repeat(100, num(1), twice), api.ErrDeep, 101},
		{repeat(30, num(1), both), api.ErrLong, 91},
		{repeat(60, num(1), both), api.ErrDeep, 101},
		{endless, api.ErrDeep, 101},
		{op("+", repeat(99, num(1), twice), endless), api.ErrDeep, 101},
	} {
		p := program(val("x", c.e))
		if e, f, d, s := CheckExpr(c.e), Check(p), Depth(p), Size(p); e != c.want || f != c.want || d != c.depth || s != 2001 {
			t.Errorf("CheckExpr, Check, Depth and Size = %v, %v, %d, %d; expected %v, %d", e, f, d, s, c.want, c.depth)
		}
	}
	x := repeat(99, typ("Int"), func(x api.Type) api.Type { return arrow(x, x) })
	p := repeat(99, wild(), func(p api.Pat) api.Pat { return match(",", p, p, p) })
	if e, f := CheckType(x), CheckPat(p); e != api.ErrLong || f != api.ErrLong {
		t.Errorf("CheckType and CheckPat = %v, %v", e, f)
	}
	around := api.Type{Name: "T", Args: make([]api.Type, 2)}
	around.Args[0], around.Args[1] = around, around
	if e := CheckType(around); e != api.ErrDeep {
		t.Errorf("CheckType of a type within itself = %v", e)
	}
}
