package match

import (
	"fmt"
	"strconv"
	"testing"

	"restitch/api"
)

// P5.1: trees of lists for which there is just one that tests no more than it has to.
func TestCompile(t *testing.T) {
	ds := datas(library)
	for _, c := range []struct{ kind, list, want string }{
		{"List Int", "Nil; _", "([] Nil: 0 | Cons: 1)"},
		{"List Int", "_; Nil", "0"},
		{"Int", "x", "0"},
		{"'a", "_", "0"},
		{"Int -> Int", "f; g", "0"},
		{"(Int, Int)", "(x, y)", "([] ,: 0)"},
		{"List Int", "Cons x r; Nil", "([] Nil: 1 | Cons: 0)"},
		{"List Int", "Cons x (Cons y _); _", "([] Nil: 1 | Cons: ([1] Nil: 1 | Cons: 0))"},
		{"Bool", "False; True", "([] False: 0 | True: 1)"},
		{"(Bool, Int)", "(True, x); y", "([] ,: ([0] False: 1 | True: 0))"},
		{"Stream", "S (S x)", "([] S: ([0] S: 0))"},
		{"Four", "C; _; A", "([] A: 1 | B: 1 | C: 0 | D: 1)"},
	} {
		tree, e := Compile(ds, typ(c.kind), pats(c.list))
		errs(t, c, e, api.OK)
		same(t, c, showTree(tree), c.want)
		errs(t, c, CheckTree(ds, typ(c.kind), pats(c.list), tree), api.OK)
	}
	for _, c := range []struct {
		kind, list string
		want       api.Errno
	}{
		{"List Int", "Nil", api.ErrOpen}, {"List Int", "", api.ErrPat}, {"List Int", "Leaf", api.ErrPat}, {"List Int", "Cons x x", api.ErrVars}, {"X", "x", api.ErrData},
	} {
		tree, e := Compile(ds, typ(c.kind), pats(c.list))
		errs(t, c, e, c.want)
		same(t, c, showTree(tree), "0")
	}
}

// P5.1: which trees fit.
func TestCheckTree(t *testing.T) {
	ds := datas(library)
	const cons, bools = "Nil Cons", "False True"
	at := func(path ...int) []int { return path }
	for what, c := range map[string]struct {
		kind, list string
		tree       api.Tree
		want       api.Errno
	}{
		"two leaves":             {"List Int", "Nil; _", test(nil, cons, leaf(0), leaf(1)), api.OK},
		"1 and 1":                {"List Int", "Nil; _", test(nil, cons, leaf(1), leaf(1)), api.ErrTree},
		"0 and 0":                {"List Int", "Nil; _", test(nil, cons, leaf(0), leaf(0)), api.ErrTree},
		"a leaf of what is open": {"List Int", "x; _", leaf(0), api.OK},
		"a later leaf":           {"List Int", "x; _", leaf(1), api.ErrTree},
		"no such leaf":           {"List Int", "x; _", leaf(2), api.ErrTree},
		"a leaf below 0":         {"List Int", "x; _", leaf(-1), api.ErrTree},
		"a leaf with a path":     {"List Int", "x; _", api.Tree{Path: at(0)}, api.ErrTree},
		"a leaf with Arm":        {"Bool", "True; False", test(nil, bools, leaf(1), leaf(0)), api.OK},
		"a test with Arm":        {"Bool", "True; False", api.Tree{Arm: 1, Branches: test(nil, bools, leaf(1), leaf(0)).Branches}, api.ErrTree},
		"more than is needed":    {"List Int", "x", test(nil, cons, leaf(0), test(at(1), cons, leaf(0), leaf(0))), api.OK},
		"a single constructor":   {"(Int, Int)", "(x, y)", test(nil, ",", leaf(0)), api.OK},
		"none at all":            {"(Int, Int)", "(x, y)", leaf(0), api.ErrTree},
		"the order":              {"List Int", "Nil; _", test(nil, "Cons Nil", leaf(1), leaf(0)), api.ErrTree},
		"one is missing":         {"List Int", "Nil; _", test(nil, "Nil", leaf(0)), api.ErrTree},
		"one is too many":        {"List Int", "Nil; _", test(nil, "Nil Cons Cons", leaf(0), leaf(1), leaf(1)), api.ErrTree},
		"one twice":              {"List Int", "Nil; _", test(nil, "Nil Nil", leaf(0), leaf(0)), api.ErrTree},
		"another type's":         {"List Int", "Nil; _", test(nil, "Leaf Node", leaf(0), leaf(1)), api.ErrTree},
		"an Int":                 {"(Int, Bool)", "_", test(nil, ",", test(at(0), bools, leaf(0), leaf(0))), api.ErrTree},
		"an Int without a test":  {"(Int, Bool)", "_", test(nil, ",", api.Tree{Path: at(0)}), api.ErrTree},
		"a Bool":                 {"(Int, Bool)", "_", test(nil, ",", test(at(1), bools, leaf(0), leaf(0))), api.OK},
		"no field":               {"(Int, Bool)", "_", test(nil, ",", test(at(2), bools, leaf(0), leaf(0))), api.ErrTree},
		"a field below 0":        {"(Int, Bool)", "_", test(nil, ",", test(at(-1), bools, leaf(0), leaf(0))), api.ErrTree},
		"not known above":        {"(Int, Bool)", "_", test(at(1), bools, leaf(0), leaf(0)), api.ErrTree},
		"known already":          {"Bool", "_", test(nil, bools, test(nil, bools, leaf(0), leaf(0)), leaf(0)), api.ErrTree},
		"known in a field":       {"(Int, Bool)", "_", test(nil, ",", test(at(1), bools, leaf(0), test(at(1), bools, leaf(0), leaf(0)))), api.ErrTree},
		"tested in each branch":  {"(Bool, Bool)", "(x, True); _", test(nil, ",", test(at(1), bools, leaf(1), leaf(0))), api.OK},
		"another field":          {"(Bool, Bool)", "(x, True); _", test(nil, ",", test(at(0), bools, leaf(1), leaf(0))), api.ErrTree},
		"another branch's field": {"List Int", "Nil; _", test(nil, cons, test(at(1), cons, leaf(0), leaf(0)), leaf(1)), api.ErrTree},
		"not covered":            {"Bool", "True", test(nil, bools, leaf(0), leaf(0)), api.ErrTree},
		"a list that is wrong":   {"Bool", "Nil", leaf(0), api.ErrPat},
		"deep in a branch": {"(Bool, Bool)", "(True, True); (_, x)",
			test(nil, ",", test(at(0), bools, test(at(1), bools, leaf(1), leaf(1)), test(at(1), bools, leaf(1), leaf(0)))), api.OK},
		"deep in a branch, wrong": {"(Bool, Bool)", "(True, True); (_, x)",
			test(nil, ",", test(at(0), bools, test(at(1), bools, leaf(1), leaf(0)), test(at(1), bools, leaf(1), leaf(0)))), api.ErrTree},
	} {
		errs(t, what, CheckTree(ds, typ(c.kind), pats(c.list), c.tree), c.want)
	}
}

// spine returns a tree that tests a list to some depth.
func spine(tests int) api.Tree {
	t := leaf(0)
	for k := tests - 1; k >= 0; k-- {
		path := make([]int, k)
		for i := range path {
			path[i] = 1
		}
		t = test(path, "Nil Cons", leaf(0), t)
	}
	return t
}

// complete returns a tree that tests n fields of a Bool.
func complete(from, n int) api.Tree {
	if from == n {
		return leaf(0)
	}
	return test([]int{from}, "False True", complete(from+1, n), complete(from+1, n))
}

// P5.1: the size of trees, and trees that do not end.
func TestCheckTreeLarge(t *testing.T) {
	ds := datas(library)
	errs(t, "3999", CheckTree(ds, typ("List Int"), pats("x"), spine(1999)), api.OK)
	errs(t, "4001", CheckTree(ds, typ("List Int"), pats("x"), spine(2000)), api.ErrTree)
	// A test of one constructor makes 4000 of 3999.
	errs(t, "4000", CheckTree(ds, typ("Both (List Int)"), pats("x"), test(nil, "Two One", leaf(0), under(spine(1998), 0))), api.OK)
	wrapped := test(nil, "Two One", test([]int{0}, ",", leaf(0)), under(spine(1998), 0))
	errs(t, "4000", CheckTree(ds, typ("Both (List Int)"), pats("x"), wrapped), api.OK)
	wrapped = test(nil, "Two One", test([]int{0}, ",", test([]int{0, 0}, "Nil Cons", leaf(0), leaf(0))), under(spine(1998), 0))
	errs(t, "4002", CheckTree(ds, typ("Both (List Int)"), pats("x"), wrapped), api.ErrTree)

	bools := data("Ten", oneCon("Ten", many(16, func(int) api.Type { return typ("Bool") })...))
	errs(t, "2048", CheckTree([]api.Data{bools}, typ("Ten"), pats("x"), test(nil, "Ten", complete(0, 10))), api.OK)
	errs(t, "4096", CheckTree([]api.Data{bools}, typ("Ten"), pats("x"), test(nil, "Ten", complete(0, 11))), api.ErrTree)

	endless := test(nil, "S", leaf(0))
	endless.Branches[0].Tree = endless
	errs(t, "endless", CheckTree(ds, typ("Stream"), pats("x"), endless), api.ErrTree)
	vast := leaf(0)
	for k := 99; k >= 0; k-- {
		vast = api.Tree{Path: append([]int(nil), make([]int, k)...), Branches: []api.Branch{{Con: "Two", Tree: vast}, {Con: "One", Tree: vast}}}
	}
	errs(t, "vast", CheckTree(ds, typ("Both Int"), pats("x"), vast), api.ErrTree)
	far := test(make([]int, 1<<20), "S", leaf(0))
	errs(t, "a long path", CheckTree(ds, typ("Stream"), pats("x"), test(nil, "S", far)), api.ErrTree)
}

// under puts a field in front of the paths of a tree.
func under(t api.Tree, field int) api.Tree {
	if len(t.Branches) == 0 {
		return t
	}
	result := api.Tree{Path: append([]int{field}, t.Path...)}
	for _, b := range t.Branches {
		result.Branches = append(result.Branches, api.Branch{Con: b.Con, Tree: under(b.Tree, field)})
	}
	return result
}

// P5.1: where a tree leads.
func TestWalk(t *testing.T) {
	two := test(nil, "Nil Cons", leaf(0), test([]int{1}, "Nil Cons", leaf(5), leaf(-7)))
	for _, c := range []struct {
		tree  api.Tree
		value string
		arm   int
		want  api.Errno
	}{
		{test(nil, "Nil Cons", leaf(0), leaf(1)), "Cons 3 Nil", 1, api.OK},
		{two, "Nil", 0, api.OK}, {two, "Cons 1 Nil", 5, api.OK}, {two, "Cons 1 (Cons 2 Nil)", -7, api.OK},
		{two, "Leaf", 0, api.ErrTree}, {two, "3", 0, api.ErrTree}, {two, "Cons 1", 0, api.ErrTree}, {two, "Cons 1 2", 0, api.ErrTree},
		{leaf(3), "Nil", 3, api.OK}, {leaf(3), "3", 3, api.OK},
		{test([]int{-1}, "Nil Cons", leaf(0), leaf(1)), "Cons 3 Nil", 0, api.ErrTree},
		{test([]int{1}, "Nil Nil", leaf(4), leaf(1)), "Cons 3 Nil", 4, api.OK},
		{test([]int{0}, "Nil Cons", leaf(0), leaf(1)), "Cons 3 Nil", 0, api.ErrTree},
		{test([]int{2}, "Nil Cons", leaf(0), leaf(1)), "Cons 3 Nil", 0, api.ErrTree},
	} {
		arm, e := Walk(c.tree, value(c.value))
		errs(t, c, e, c.want)
		if arm != c.arm {
			t.Errorf("%v: arm %d", c, arm)
		}
	}
	number := api.Tree{Branches: []api.Branch{{Con: "", Tree: leaf(2)}}}
	if arm, e := Walk(number, value("3")); arm != 2 || e != api.OK {
		t.Errorf("an integer leads to %d with error %d", arm, e)
	}
}

// P5.1: no more than 100 tests are made.
func TestWalkLong(t *testing.T) {
	for _, c := range []struct {
		tests, elements int
		want            api.Errno
	}{
		{100, 200, api.OK}, {101, 200, api.ErrTree}, {101, 99, api.OK}, {101, 100, api.ErrTree}, {1000, 98, api.OK}, {1000, 5000, api.ErrTree},
	} {
		_, e := Walk(spine(c.tests), longList(c.elements))
		errs(t, c, e, c.want)
	}
	endless := test(nil, "S", leaf(0))
	endless.Branches[0].Tree = endless
	_, e := Walk(endless, value("S 3"))
	errs(t, "endless", e, api.ErrTree)
	loop := test([]int{1, 1, 0, 1}, ",", leaf(6))
	arm, e := Walk(loop, endlessValue())
	if arm != 6 || e != api.OK {
		t.Errorf("an endless value leads to %d with error %d", arm, e)
	}
}

// P5.3: what Compile returns fits, and so do other trees; a tree that is changed fits if the document says so.
func TestTreesSlow(t *testing.T) {
	wrong, right := 0, 0
	for seed := range uint64(4000) {
		r := newRandom(seed)
		ds := r.datas()
		kind := r.kind(ds)
		l := r.covering(ds, kind)
		what := fmt.Sprintf("seed %d: %s", seed, showAll(l))
		tree, e := Compile(ds, kind, l)
		if e == api.ErrLong {
			continue
		}
		errs(t, what, e, api.OK)
		for range 4 {
			errs(t, what+" "+showTree(tree), CheckTree(ds, kind, l, tree), slowCheckTree(ds, kind, l, tree))
			if slowCheckTree(ds, kind, l, tree) == api.OK {
				right++
			} else {
				wrong++
			}
			if r.IntN(2) == 0 {
				tree = r.anyTree(ds, kind, l, wild(), r.IntN(3))
			} else {
				tree = r.spoilTree(tree, len(l))
			}
		}
	}
	if wrong < 2000 || right < 4000 {
		t.Errorf("%d trees fit, %d do not", right, wrong)
	}
}

// P5.1: there is a tree for each list of at most 40 patterns of data types with at most 4 constructors, as far as random ones show.
func TestCompileShort(t *testing.T) {
	for seed := range uint64(4000) {
		r := newRandom(seed)
		ds := r.datas()
		kind := r.kind(ds)
		l := r.covering(ds, kind)
		if count(40, argsOf, l...) > 40 {
			continue
		}
		tree, e := Compile(ds, kind, l)
		errs(t, showAll(l), e, api.OK)
		if n := nodesOf(tree); n > api.MaxTree {
			t.Errorf("%s: a tree of %d", showAll(l), n)
		}
	}
}

// P5.1: lists for which a tree is small enough if the places to test are chosen with care.
func TestCompileCareful(t *testing.T) {
	ds := datas("data U = E0 | E1 U | E2 U U | E3;")
	kind := typ("(U, U, U, U)")
	for _, list := range []string{
		"(E0, x1, E3, x2); (_, _, E1 (E1 (E1 (E1 x1))), _); (x1, E1 (E2 E0 _), _, E2 x2 _); (E2 (E1 x1) E3, E3, _, E3); (x1, _, x2, E2 E0 E0); _",
		"(_, E1 (E1 (E2 E0 E0)), _, E0); (_, x1, E1 (E1 E0), _); (E3, _, E0, E3); (x1, E2 E3 E3, x2, _); (E1 E0, _, _, x1); (E0, _, _, E0); _",
		"(_, _, E2 (E1 _) E3, E1 _); (E2 E3 E3, x1, _, _); (_, E2 E0 E3, _, _); (x1, x2, _, E2 E0 (E1 E3)); (E0, x1, E3, _); _",
		"(E0, E1 E3, _, _); (_, E0, E2 E3 E0, x); (E3, _, E0, E1 E0); (x, y, E1 E0, E2 _ E3); (E1 _, _, _, E0); _",
	} {
		l := pats(list)
		tree, e := Compile(ds, kind, l)
		errs(t, list, e, api.OK)
		errs(t, list, CheckTree(ds, kind, l, tree), api.OK)
	}
	// Each value that differs from each of the first four patterns at just one place needs a leaf of its own: 15 to the power of 4.
	l := pats("(E2 (E2 E0 E3) E0, _, _, _); (_, E2 (E2 E0 E3) E0, _, _); (_, _, E2 (E2 E0 E3) E0, _); (_, _, _, E2 (E2 E0 E3) E0); _")
	_, e := Compile(ds, kind, l)
	errs(t, "no small tree", e, api.ErrLong)
	tree, e := Compile(ds, kind, append(l[:2:2], l[4]))
	errs(t, "15 times 15", e, api.OK)
	errs(t, "15 times 15", CheckTree(ds, kind, append(l[:2:2], l[4]), tree), api.OK)
}

// P5.1: a list for which there is no tree that is small enough.
func TestCompileLong(t *testing.T) {
	d := data("Big")
	for k := range 16 {
		d.Cons = append(d.Cons, oneCon("K"+strconv.Itoa(k)))
	}
	row := data("Row", oneCon("Row", many(8, func(int) api.Type { return typ("Big") })...))
	var l []api.Pat
	for i := range 4 {
		args := wilds(8)
		args[2*i], args[2*i+1] = con("K0"), con("K1")
		l = append(l, con("Row", args...))
	}
	l = append(l, wild())
	tree, e := Compile([]api.Data{d, row}, typ("Row"), l)
	errs(t, "long", e, api.ErrLong)
	same(t, "long", showTree(tree), "0")
	tree, e = Compile([]api.Data{d, row}, typ("Row"), l[2:])
	errs(t, "shorter", e, api.OK)
	errs(t, "shorter", CheckTree([]api.Data{d, row}, typ("Row"), l[2:], tree), api.OK)
	_, e = Compile([]api.Data{d, row}, typ("Row"), l[:4])
	errs(t, "long, and open", e, api.ErrOpen)
}

// P5.1: the greatest tree that there may be.
func TestCompileLimit(t *testing.T) {
	// Row k asks for a constructor of its own field, of a type with so many: each test has one leaf, and otherwise goes on with the next row.
	counts := []int{8, 2, 4, 12, 16}
	var ds []api.Data
	var fields []api.Type
	var l []api.Pat
	for k, count := range counts {
		d := data("K" + strconv.Itoa(k))
		for i := range count {
			d.Cons = append(d.Cons, oneCon("K"+strconv.Itoa(k)+"x"+strconv.Itoa(i)))
		}
		ds = append(ds, d)
		fields = append(fields, typ(d.Name))
		args := wilds(len(counts))
		args[k] = con(d.Cons[0].Name)
		l = append(l, con("Row", args...))
	}
	ds = append(ds, data("Row", oneCon("Row", fields...)))
	l = append(l, wild())
	tree, e := Compile(ds, typ("Row"), l)
	errs(t, "4000", e, api.OK)
	if n := nodesOf(tree); n != api.MaxTree {
		t.Errorf("a tree of %d", n)
	}
	errs(t, "4000", CheckTree(ds, typ("Row"), l, tree), api.OK)
	for i := range l {
		l[i] = con(",", l[i], named("x"))
	}
	_, e = Compile(ds, typ("(Row, Int)"), l)
	errs(t, "4001", e, api.ErrLong)
	errs(t, "4001", CheckTree(ds, typ("(Row, Int)"), l, test(nil, ",", under(tree, 0))), api.ErrTree)
}

// P5.1: a tree is new memory.
func TestTreeNew(t *testing.T) {
	ds, kind := datas(library), typ("(Bool, (Bool, List Int))")
	l := pats("(True, (True, Nil)); (_, (False, Cons _ Nil)); (False, (_, Cons _ (Cons _ Nil))); _")
	tree, _ := Compile(ds, kind, l)
	before := showTree(tree)
	var visit func(t api.Tree)
	visit = func(t api.Tree) {
		path := append(t.Path, 99)
		branches := append(t.Branches, api.Branch{Con: "X"})
		path[len(path)-1], branches[len(branches)-1].Con = 98, "Y"
		for i := range t.Path {
			was := t.Path[i]
			t.Path[i] = 77
			defer func() { t.Path[i] = was }()
		}
		for _, b := range t.Branches {
			visit(b.Tree)
		}
	}
	visit(tree)
	same(t, "the tree", showTree(tree), before)
	var clear func(t api.Tree, most int) int
	clear = func(t api.Tree, most int) int {
		for i := range t.Path {
			if t.Path[i] > 1<<20 {
				return most
			}
			t.Path[i] = 1<<20 + 1
		}
		for _, b := range t.Branches {
			most = clear(b.Tree, most)
		}
		return most - 1
	}
	if clear(tree, 1<<20) != 1<<20-nodesOf(tree) {
		t.Error("two paths share memory")
	}
}
