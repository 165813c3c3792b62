package infer

import (
	"reflect"
	"slices"
	"strings"
	"testing"

	"restitch/api"
)

// validTypes are types, each with its variables and its size.
func validTypes() []struct {
	t    api.Type
	vars string
	size int
} {
	long := "'" + strings.Repeat("x", 23)
	return []struct {
		t    api.Type
		vars string
		size int
	}{
		{typ("Int"), "", 1},
		{typ("'a"), "'a", 1},
		{typ("'b -> 'a -> 'b"), "'b 'a", 5},
		{typ("('x, Int)"), "'x", 3},
		{typ("('d, 'c, 'b, 'a)"), "'d 'c 'b 'a", 5},
		{typ("(Int, Int, List ('b, 'a))"), "'b 'a", 7},
		{typ("Bool"), "", 1},
		{typ("Map'7 'fn (List 'k) 'fn"), "'fn 'k", 5},
		{api.Type{Name: long}, long, 1},
		{api.Type{Name: "X" + strings.Repeat("x", 23)}, "", 1},
		{chain(100), "'a", 100},
		{broad(2000, theInt), "", 2000},
		{broad(17, theInt), "", 17},
		{vast(9), "", 1023},
	}
}

// P3.1: CheckType, Vars and Size of valid types, and of others.
func TestTypes(t *testing.T) {
	for _, c := range validTypes() {
		errs(t, c.t.Name, CheckType(c.t), api.OK)
		if got := strings.Join(Vars(c.t), " "); got != c.vars {
			t.Errorf("Vars of %s: %q, expected %q", show(c.t), got, c.vars)
		}
		if got := Size(c.t); got != c.size {
			t.Errorf("Size of %s: %d, expected %d", show(c.t), got, c.size)
		}
	}
	for i, u := range untypes() {
		errs(t, i, CheckType(u), api.ErrUntype)
		if l := Vars(u); len(l) != 0 {
			t.Errorf("Vars of type %d, which is not valid: %v", i, l)
		}
		if n := Size(u); n != 0 {
			t.Errorf("Size of type %d, which is not valid: %d", i, n)
		}
	}
}

// P3.1: CheckScheme.
func TestCheckScheme(t *testing.T) {
	for _, text := range []string{". Int", ". 'a", "'a. 'a", "'a. 'a -> 'b", "'b 'a. 'a -> 'b", "'a. ('a, 'a)"} {
		errs(t, text, CheckScheme(scheme(text)), api.OK)
	}
	for _, text := range []string{"'a. Int", "'a 'a. 'a", "'a 'b 'a. 'a -> 'b", "'c. 'a -> 'b", "Int. Int", "List. List Int", "a. 'a", "->. 'a -> 'a"} {
		errs(t, text, CheckScheme(scheme(text)), api.ErrUntype)
	}
	for i, u := range untypes() {
		errs(t, i, CheckScheme(api.Scheme{Type: u}), api.ErrUntype)
	}
	many := make([]string, 3000000)
	errs(t, "many variables", CheckScheme(api.Scheme{Vars: many, Type: typ("'a")}), api.ErrUntype)
	errs(t, "an empty variable", CheckScheme(api.Scheme{Vars: []string{""}, Type: typ("'a")}), api.ErrUntype)
}

// P3.2: what a substitution makes of a type.
func TestApply(t *testing.T) {
	for _, c := range [][3]string{
		{"", "'a -> Int", "'a -> Int"},
		{"'a: Int", "'a -> 'b -> 'a", "Int -> 'b -> Int"},
		{"'a: 'b; 'b: 'a", "('a, 'b, 'c)", "('b, 'a, 'c)"},
		{"'a: List 'a", "List 'a", "List (List 'a)"},
		{"'a: 'a", "'a", "'a"},
		{"'z: Int", "'a", "'a"},
		{"'b: ('a, 'b); 'a: Bool -> 'b", "'a -> 'b", "(Bool -> 'b) -> ('a, 'b)"},
	} {
		got, e := Apply(binds(c[0]), typ(c[1]))
		errs(t, c, e, api.OK)
		if !reflect.DeepEqual(got, typ(c[2])) {
			t.Errorf("Apply of %s to %s: %s, expected %s", c[0], c[1], show(got), c[2])
		}
	}
}

// P3.2: binds that are no substitution, and types that get too great.
func TestApplyErrors(t *testing.T) {
	check := func(what any, l []api.Bind, u api.Type, want api.Errno) {
		t.Helper()
		got, e := Apply(l, u)
		errs(t, what, e, want)
		if e != api.OK && !reflect.DeepEqual(got, api.Type{}) {
			t.Errorf("%v: a type with an error: %v", what, got)
		}
	}
	for i, u := range untypes() {
		check(i, nil, u, api.ErrUntype)
		check(i, []api.Bind{{Var: "a"}}, u, api.ErrUntype)
		check(i, []api.Bind{{Var: "'a", Type: u}}, typ("Int"), api.ErrArg)
	}
	for _, v := range []string{"", "a", "A", "Int", "'", "'A", "->"} {
		check(v, []api.Bind{{Var: v, Type: typ("Int")}}, typ("'a"), api.ErrArg)
	}
	check("twice", binds("'a: Int; 'b: Int; 'a: Int"), typ("'c"), api.ErrArg)
	var most []api.Bind
	for k := range 2001 {
		most = append(most, api.Bind{Var: nameOf(k), Type: typ("Int")})
	}
	check("2000 binds", most[:2000], typ("'a"), api.OK)
	check("2001 binds", most, typ("'a"), api.ErrArg)
	check("deep", []api.Bind{{Var: "'a", Type: chain(51)}}, chain(50), api.OK)
	check("too deep", []api.Bind{{Var: "'a", Type: chain(51)}}, chain(51), api.ErrWide)
	pair := typ("'a -> 'a")
	check("1999", []api.Bind{{Var: "'a", Type: broad(999, theInt)}}, pair, api.OK)
	check("2001", []api.Bind{{Var: "'a", Type: broad(1000, theInt)}}, pair, api.ErrWide)
	check("2000", []api.Bind{{Var: "'a", Type: broad(1998, theInt)}}, typ("'a -> Int"), api.OK)
	check("wide without a use", []api.Bind{{Var: "'b", Type: broad(2000, theInt)}}, pair, api.OK)
	check("binds before the result", append(binds("'a: Int; 'a: Int"), api.Bind{Var: "'b", Type: chain(60)}), chain(60), api.ErrArg)
}

// P3.2, rules: a result is new memory, and an argument stays as it was.
func TestNewMemory(t *testing.T) {
	u, v := typ("('a, List 'b)"), typ("List Int")
	got, _ := Apply([]api.Bind{{Var: "'a", Type: v}, {Var: "'b", Type: v}}, u)
	got.Args[0].Args[0].Name = "X"
	if show(v) != "List Int" || show(u) != "('a, List 'b)" || show(got) != "(List X, List (List Int))" {
		t.Errorf("shared memory: %s, %s, %s", show(v), show(u), show(got))
	}
	l, _ := Solve([]api.Type{typ("('a, 'b)"), {Name: ",", Args: []api.Type{v, v}}})
	l[0].Type.Args[0].Name = "X"
	if show(l[1].Type) != "List Int" || show(v) != "List Int" {
		t.Errorf("shared memory: %s, %s", showBinds(l), show(v))
	}
	m, _ := Match(closed("('a, 'b)"), api.Type{Name: ",", Args: []api.Type{v, v}})
	m[0].Type.Args[0].Name = "X"
	if show(m[1].Type) != "List Int" || show(v) != "List Int" {
		t.Errorf("shared memory: %s, %s", showBinds(m), show(v))
	}
	s, _ := Close(u)
	s.Type.Args[1].Args[0].Name, s.Vars[0] = "X", "'y"
	if show(u) != "('a, List 'b)" {
		t.Errorf("shared memory: %s", show(u))
	}
}

// P3.2: the types of a substitution are put at once, not one after the other.
func TestAtOnce(t *testing.T) {
	swap := binds("'a: 'b; 'b: 'a")
	for _, text := range []string{"'a -> 'b", "List ('a, 'b, 'a)", "'c"} {
		once, _ := Apply(swap, typ(text))
		twice, _ := Apply(swap, once)
		if show(twice) != text || text != "'c" && show(once) == text {
			t.Errorf("%s, %s, %s", text, show(once), show(twice))
		}
		back := slices.Clone(swap)
		slices.Reverse(back)
		if again, _ := Apply(back, typ(text)); show(again) != show(once) {
			t.Errorf("the order of binds matters: %s, %s", show(again), show(once))
		}
	}
}
