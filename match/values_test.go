package match

import (
	"slices"
	"testing"

	"restitch/api"
)

// P5.1: which values a pattern matches.
func TestMatches(t *testing.T) {
	for _, c := range []struct {
		pat, value string
		want       bool
	}{
		{"_", "3", true}, {"x", "Cons 3 Nil", true}, {"Nil", "Nil", true}, {"Nil", "Leaf", false}, {"Nil", "3", false},
		{"Cons x _", "Cons 3 Nil", true}, {"Cons x Nil", "Cons 3 (Cons 4 Nil)", false}, {"Cons x", "Cons 3 Nil", false}, {"Cons x y z", "Cons 3 Nil", false},
		{"(True, y)", "(True, 3)", true}, {"(True, y)", "(False, 3)", false}, {"(x, y)", "(1, 2, 3)", false}, {"(x, Cons y Nil)", "(1, Cons 2 Nil)", true},
		{"Nil", "Nil 3", false}, {"Cons x x", "Cons 3 4", true},
	} {
		got, e := Matches(pat(c.pat), value(c.value))
		errs(t, c, e, api.OK)
		if got != c.want {
			t.Errorf("%v: %v", c, got)
		}
	}
	three := api.Value{Num: 3}
	for _, c := range []struct {
		pat   api.Pat
		value api.Value
		want  bool
	}{
		{api.Pat{}, three, false}, {api.Pat{Kind: 4}, three, false}, {api.Pat{Kind: -1, Name: "Nil"}, api.Value{Con: "Nil"}, false},
		{con("X", api.Pat{Kind: 4}), api.Value{Con: "X", Args: []api.Value{three}}, false},
		{con(""), three, true}, {con("", wild()), three, false}, {con("Nil"), api.Value{Con: "Nil", Num: 5}, true},
		{api.Pat{Kind: api.PWild, Name: "x", Args: pats("Nil")}, three, true}, {api.Pat{Kind: api.PVar, Args: pats("Nil")}, three, true},
	} {
		got, e := Matches(c.pat, c.value)
		errs(t, c, e, api.OK)
		if got != c.want {
			t.Errorf("%v: %v", c, got)
		}
	}
}

// P5.1: the first pattern that matches is selected.
func TestSelect(t *testing.T) {
	for _, c := range []struct {
		list, value string
		arm         int
		binds       string
		want        api.Errno
	}{
		{"Nil; Cons x _", "Cons 3 (Cons 4 Nil)", 1, "x = 3", api.OK},
		{"Nil", "Cons 3 Nil", 0, "", api.ErrNone},
		{"", "3", 0, "", api.ErrNone},
		{"x; y", "3", 0, "x = 3", api.OK},
		{"Cons x (Cons y z); Cons x _; Nil", "Cons 1 Nil", 1, "x = 1", api.OK},
		{"Cons x (Cons y z); _", "Cons 1 (Cons 2 (Cons 3 Nil))", 0, "x = 1, y = 2, z = Cons(3)(Nil)", api.OK},
		{"(a, (b, _), c)", "(Nil, (True, False), 5)", 0, "a = Nil, b = True, c = 5", api.OK},
		{"Cons x x", "Cons 1 Nil", 0, "x = 1, x = Nil", api.OK},
	} {
		arm, binds, e := Select(pats(c.list), value(c.value))
		errs(t, c, e, c.want)
		if arm != c.arm {
			t.Errorf("%v: arm %d", c, arm)
		}
		same(t, c, showBinds(binds), c.binds)
	}
	odd := api.Pat{Kind: api.PVar, Name: "x", Args: pats("y; z")}
	_, binds, e := Select([]api.Pat{{}, {Kind: 5, Args: pats("x")}, con("X", odd)}, value("X 3"))
	errs(t, "other kinds", e, api.OK)
	same(t, "other kinds", showBinds(binds), "x = 3")
}

// P5.1: the errors of Matches and Select, in their order.
func TestSelectErrors(t *testing.T) {
	deep, long := chainPat(101), con("X", many(120, func(int) api.Pat { return wild() })...)
	large := longList(2000)
	check := func(what string, want api.Errno, v api.Value, l ...api.Pat) {
		t.Helper()
		arm, binds, e := Select(l, v)
		errs(t, what, e, want)
		if want != api.OK && (arm != 0 || binds != nil) {
			t.Errorf("%s: a result with an error", what)
		}
		if len(l) == 1 {
			got, e := Matches(l[0], v)
			errs(t, what, e, want)
			if got != (want == api.OK) {
				t.Errorf("%s: Matches is %v", what, got)
			}
		}
	}
	check("4000 values", api.OK, api.Value{Con: "X", Args: []api.Value{longList(1999)}}, wild())
	check("4001 values", api.ErrLarge, large, wild())
	check("endless", api.ErrLarge, endlessValue(), wild())
	check("100 deep", api.OK, value("3"), named("x"), chainPat(100))
	check("deep", api.ErrDeep, large, deep)
	check("the last one is deep", api.ErrDeep, large, append(many(13, func(int) api.Pat { return long }), deep)...)
	check("deep within _", api.ErrDeep, value("3"), api.Pat{Kind: api.PWild, Args: []api.Pat{chainPat(100)}})
	check("long", api.ErrLong, large, long)
	check("vast", api.ErrLong, large, vastPat(100, wild()))
	check("endless pattern", api.ErrDeep, large, endlessPat("X"))
	check("long altogether", api.ErrLong, value("3"), wild(), con("X", many(119, func(int) api.Pat { return wild() })...))
	check("120 altogether", api.OK, value("3"), wild(), con("X", many(118, func(int) api.Pat { return wild() })...))
	check("13", api.ErrLong, large, many(13, func(int) api.Pat { return wild() })...)
	check("12", api.OK, value("3"), many(12, func(int) api.Pat { return wild() })...)
	check("none, and large", api.ErrLarge, large)
}

// P5.1: parts of values.
func TestAt(t *testing.T) {
	v := value("Node (Node Leaf 1 Leaf) 2 (X 3 4)")
	for _, c := range []struct {
		path []int
		part string
	}{
		{nil, "Node(Node(Leaf)(1)(Leaf))(2)(X(3)(4))"}, {[]int{0}, "Node(Leaf)(1)(Leaf)"}, {[]int{0, 1}, "1"}, {[]int{2, 1}, "4"}, {[]int{0, 0}, "Leaf"},
	} {
		got, e := At(v, c.path)
		errs(t, c, e, api.OK)
		same(t, c, showValue(got), c.part)
	}
	for _, path := range [][]int{{3}, {-1}, {0, 3}, {1, 0}, {0, 0, 0}, {2, 2}, {0, -1}, {1 << 40}, make([]int, 100000)} {
		got, e := At(v, path)
		errs(t, path[:1], e, api.ErrNone)
		same(t, path[:1], showValue(got), "0")
	}
	odd := api.Value{Con: "", Num: 7, Args: []api.Value{{Con: "X", Num: 8}}}
	got, e := At(odd, []int{0})
	if e != api.OK || got.Con != "X" || got.Num != 8 {
		t.Errorf("the part of an odd value is %v", got)
	}
}

// P5.1: values of any depth and size.
func TestAtLarge(t *testing.T) {
	deep := longList(300000)
	got, e := At(deep, []int{1})
	errs(t, "deep", e, api.OK)
	count := 0
	for got.Con == "Cons" {
		got = got.Args[1]
		count++
	}
	if count != 299999 {
		t.Errorf("the rest of a list has %d elements", count)
	}
	path := slices.Repeat([]int{1}, 300000)
	got, e = At(deep, path)
	errs(t, "its end", e, api.OK)
	same(t, "its end", showValue(got), "Nil")
	_, e = At(deep, append(path, 0))
	errs(t, "behind its end", e, api.ErrNone)
	// A value without an end has no copy.
	_, e = At(endlessValue(), []int{0, 1, 1, 0})
	errs(t, "endless", e, api.ErrLarge)
}

// P5.1: what is returned shares no memory with the value.
func TestPartsNew(t *testing.T) {
	v := value("Cons (X 1) (Cons (X 2) Nil)")
	got, _ := At(v, nil)
	got.Args[0].Args[0].Num = 5
	got.Args[1].Con = "Y"
	_, binds, _ := Select(pats("Cons x y"), v)
	binds[0].Value.Args[0].Num = 6
	binds[1].Value.Args[0].Args[0].Num = 7
	same(t, "the value", showValue(v), "Cons(X(1))(Cons(X(2))(Nil))")
	twice := []api.Value{{Num: 1}}
	shared := api.Value{Con: ",", Args: []api.Value{{Con: "X", Args: twice}, {Con: "X", Args: twice}}}
	got, _ = At(shared, nil)
	got.Args[0].Args[0].Num = 2
	same(t, "shared", showValue(got), ",(X(2))(X(1))")
	same(t, "the argument", showValue(shared), ",(X(1))(X(1))")
}
