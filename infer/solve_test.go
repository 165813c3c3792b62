package infer

import (
	"math/rand/v2"
	"reflect"
	"slices"
	"strings"
	"testing"

	"restitch/api"
)

// P3.3: Unify, with the types in both orders where this changes nothing.
func TestUnify(t *testing.T) {
	for _, c := range []struct {
		a, b, want string
		e          api.Errno
	}{
		{"'a -> 'b", "Int -> 'a", "'a: Int; 'b: Int", api.OK},
		{"'b -> 'a", "'a -> 'c", "'a: 'b; 'c: 'b", api.OK},
		{"'a", "List 'a", "", api.ErrCycle},
		{"Int", "Bool", "", api.ErrClash},
		{"('a, 'a)", "(Int, 'a -> 'a)", "", api.ErrClash},
		{"'a", "'a", "", api.OK},
		{"Int", "Int", "", api.OK},
		{"'a", "'b", "'b: 'a", api.OK},
		{"'b", "'a", "'a: 'b", api.OK},
		{"('c, 'b, 'a)", "('a, 'c, 'b)", "'b: 'c; 'a: 'c", api.OK},
		{"('a, 'b)", "('b, Int)", "'a: Int; 'b: Int", api.OK},
		{"('a, 'b)", "(List 'b, List 'c)", "'a: List (List 'c); 'b: List 'c", api.OK},
		{"('a, 'b)", "(List 'c, List 'd)", "'a: List 'c; 'b: List 'd", api.OK},
		{"('a, 'a)", "(List 'c, List 'b)", "'a: List 'c; 'b: 'c", api.OK},
		{"Map 'a Int", "Map Int 'a", "'a: Int", api.OK},
		{"Map 'a Int", "Map Int", "", api.ErrClash},
		{"Map", "Map Int", "", api.ErrClash},
		{"('a, 'b)", "('a, 'b, 'c)", "", api.ErrClash},
		{"('a, 'b)", "'a -> 'b", "", api.ErrClash},
		{"('a, 'b)", "(List 'b, List 'a)", "", api.ErrCycle},
		{"('a, ('a, 'b))", "(List 'a, ('b, Int))", "", api.ErrClash},
		{"('a, ('a, 'b))", "(List 'a, (List 'b, 'a))", "", api.ErrCycle},
		{"('a, 'a)", "(List 'a, List (List 'a))", "", api.ErrCycle},
		{"('a, 'a)", "(List 'a, List (List Int))", "", api.ErrClash},
		{"('a, 'a, 'a)", "(Int, 'b, 'c)", "'a: Int; 'b: Int; 'c: Int", api.OK},
		{"'a -> 'b -> 'a", "'c -> 'c -> 'd", "'b: 'a; 'c: 'a; 'd: 'a", api.OK},
	} {
		got, e := Unify(typ(c.a), typ(c.b))
		errs(t, c, e, c.e)
		if showBinds(got) != c.want {
			t.Errorf("Unify of %s and %s: %s, expected %s", c.a, c.b, showBinds(got), c.want)
		}
		_, e = Unify(typ(c.b), typ(c.a))
		errs(t, c, e, c.e)
	}
}

// P3.3: Solve of lists, and its errors.
func TestSolve(t *testing.T) {
	for _, c := range []struct {
		list, want string
		e          api.Errno
	}{
		{"", "", api.OK},
		{"List 'a", "", api.OK},
		{"'c; 'b; 'a", "'b: 'c; 'a: 'c", api.OK},
		{"'c; 'b; 'a; Int", "'c: Int; 'b: Int; 'a: Int", api.OK},
		{"'a -> 'b; 'b -> 'c; 'c -> 'd", "'b: 'a; 'c: 'a; 'd: 'a", api.OK},
		{"'a -> Int; 'b -> 'c; List 'd -> 'd", "'a: List Int; 'b: List Int; 'c: Int; 'd: Int", api.OK},
		{"'a; List 'b; List 'a", "", api.ErrCycle},
		{"'a; List 'a; Int", "", api.ErrClash},
		{"Int; 'a; Bool", "", api.ErrClash},
	} {
		var l []api.Type
		if c.list != "" {
			l = typs(strings.Split(c.list, "; ")...)
		}
		got, e := Solve(l)
		errs(t, c, e, c.e)
		if showBinds(got) != c.want {
			t.Errorf("Solve of %s: %s, expected %s", c.list, showBinds(got), c.want)
		}
	}
	for i, u := range untypes() {
		for _, l := range [][]api.Type{{u}, {typ("Int"), u}, {typ("Int"), typ("Bool"), u}} {
			got, e := Solve(l)
			errs(t, i, e, api.ErrUntype)
			_, f := Unify(u, l[0])
			_, g := Unify(l[0], u)
			if len(got) != 0 || f != api.ErrUntype || g != api.ErrUntype {
				t.Errorf("type %d: %v, %d, %d", i, got, f, g)
			}
		}
		_, e := Solve(slices.Repeat([]api.Type{u}, 17))
		errs(t, i, e, api.ErrArg)
	}
	_, e := Solve(typs(slices.Repeat([]string{"'a"}, 16)...))
	errs(t, "16 types", e, api.OK)
	_, e = Solve(typs(slices.Repeat([]string{"'a"}, 17)...))
	errs(t, "17 types", e, api.ErrArg)
}

// doubling returns two types whose solution doubles its size with each of its variables.
func doubling(n int) (a, b api.Type) {
	a, b = typ("Int"), typ("Int")
	for k := range n {
		v, w := api.Type{Name: nameOf(k)}, api.Type{Name: nameOf(k + 1)}
		a = api.Type{Name: "->", Args: []api.Type{w, a}}
		b = api.Type{Name: "->", Args: []api.Type{{Name: "->", Args: []api.Type{v, v}}, b}}
	}
	return a, b
}

// P3.3: a bind that gets too great is an error, a type that just the equal types have is none.
func TestSolveWide(t *testing.T) {
	check := func(what any, want api.Errno, l ...api.Type) {
		t.Helper()
		got, e := Solve(l)
		errs(t, what, e, want)
		if e != api.OK && len(got) != 0 {
			t.Errorf("%v: binds with an error: %v", what, showBinds(got))
		}
	}
	for n := range 45 {
		a, b := doubling(n)
		want := api.OK
		if n > 9 {
			want = api.ErrWide
		}
		check(n, want, a, b)
		_, e := Unify(b, a)
		errs(t, n, e, want)
	}
	a, b := doubling(40)
	again := func(u api.Type, text string) api.Type { return api.Type{Name: ",", Args: []api.Type{u, typ(text)}} }
	check("a clash behind what is too great", api.ErrClash, again(a, "Int"), again(b, "Bool"))
	check("a cycle behind what is too great", api.ErrCycle, again(a, "'other"), again(b, "List 'other"))
	check("equal types that are too great", api.OK, typ("('a, 'a, 'b)"), api.Type{Name: ",", Args: []api.Type{broad(999, theInt), typ("'a"), typ("'b")}})
	wide := broad(1500, theInt)
	check("a bind of 1500 types", api.OK, api.Type{Name: ",", Args: []api.Type{typ("'a"), typ("'a"), typ("'a")}}, api.Type{Name: ",", Args: []api.Type{wide, typ("'b"), typ("'c")}})
	deepest := func(n int) api.Type { return api.Type{Name: ",", Args: []api.Type{chain(n), typ("'b")}} }
	check("a bind 100 deep", api.OK, deepest(99), api.Type{Name: ",", Args: []api.Type{typ("'b"), typ("List 'c")}})
	top := func(n int) []api.Type {
		other := api.Type{Name: ",", Args: []api.Type{typ("'x"), chain(n)}}
		return []api.Type{other, api.Type{Name: ",", Args: []api.Type{chain(51), typ("'y")}}, api.Type{Name: ",", Args: []api.Type{typ("'x"), typ("'y")}}}
	}
	check("binds side by side", api.OK, top(90)...)
	hang := func(n int) []api.Type {
		return []api.Type{{Name: ",", Args: []api.Type{typ("'x"), typ("'a")}}, {Name: ",", Args: []api.Type{chain(51), replaceVar(chain(n), "'q")}}}
	}
	check("100 deep", api.OK, hang(50)...)
	check("101 deep", api.ErrWide, hang(51)...)
}

// replaceVar gives the variable of a chain another name.
func replaceVar(t api.Type, name string) api.Type {
	result, _ := Apply([]api.Bind{{Var: "'a", Type: api.Type{Name: name}}}, t)
	return result
}

// P3.3: types that have very many equal parts are solved at once.
func TestSolveGreat(t *testing.T) {
	n := 0
	leaf := func() api.Type { n++; return api.Type{Name: nameOf(n - 1)} }
	var l []api.Type
	for range 15 {
		l = append(l, broad(2000, leaf))
	}
	got, e := Solve(l)
	errs(t, "different variables", e, api.OK)
	if len(got) != n/15*14 {
		t.Errorf("%d binds of %d variables", len(got), n)
	}
	got, e = Solve(append(l, broad(2000, theInt)))
	errs(t, "different variables and Int", e, api.OK)
	if len(got) != n || got[n-1].Type.Name != "Int" {
		t.Errorf("%d binds of %d variables", len(got), n)
	}
}

// typeMaker makes random types.
type typeMaker struct{ *rand.Rand }

func newTypeMaker(seed uint64) typeMaker { return typeMaker{rand.New(rand.NewPCG(seed, 3))} }

// typ makes a type with some of the first variables.
func (m typeMaker) typ(vars, deep int) api.Type {
	if deep == 0 || m.IntN(4) == 0 {
		if m.IntN(5) == 0 {
			return []api.Type{theInt(), {Name: "Bool"}}[m.IntN(2)]
		}
		return api.Type{Name: nameOf(m.IntN(vars))}
	}
	n := []int{2, 2, 1, 2, 3}
	k := m.IntN(len(n))
	t := api.Type{Name: []string{"->", ",", "List", "Map", ","}[k]}
	for range n[k] {
		t.Args = append(t.Args, m.typ(vars, deep-1))
	}
	return t
}

// hole returns a type in which some parts are replaced by variables, the same part by the same one.
func (m typeMaker) hole(t api.Type, of map[string]api.Type) api.Type {
	if m.IntN(3) == 0 {
		for k := range 4 {
			name := nameOf(m.IntN(8))
			if before, ok := of[name]; !ok || reflect.DeepEqual(before, t) {
				of[name] = t
				return api.Type{Name: name}
			} else if k == 3 {
				break
			}
		}
	}
	result := api.Type{Name: t.Name}
	for _, a := range t.Args {
		result.Args = append(result.Args, m.hole(a, of))
	}
	return result
}

// forLists looks at lists of types: small ones of which many have no solution, and ones with a solution.
func forLists(t *testing.T, look func(m typeMaker, l []api.Type)) {
	t.Helper()
	m := newTypeMaker(1)
	for i := range 3000 {
		var l []api.Type
		if i%2 == 0 {
			for range 1 + m.IntN(3) {
				l = append(l, m.typ(4, 2))
			}
		} else {
			whole, of := m.typ(1, 4), map[string]api.Type{}
			whole, _ = Apply([]api.Bind{{Var: "'a", Type: typ("'z")}}, whole)
			for range 2 + m.IntN(3) {
				l = append(l, m.hole(whole, of))
			}
		}
		look(m, l)
	}
}

// P3.3: the result is the one of a slow reading of the chapter.
func TestSolveSlow(t *testing.T) {
	count := map[api.Errno]int{}
	forLists(t, func(_ typeMaker, l []api.Type) {
		got, e := Solve(l)
		want, f := slowSolve(l)
		count[e]++
		if e != f || showBinds(got) != showBinds(want) {
			t.Fatalf("Solve of %v: %s, %d, expected %s, %d", l, showBinds(got), e, showBinds(want), f)
		}
		if len(l) == 2 {
			again, g := Unify(l[0], l[1])
			if g != e || showBinds(again) != showBinds(got) {
				t.Fatalf("Unify of %v: %s, %d", l, showBinds(again), g)
			}
		}
	})
	if count[api.OK] < 500 || count[api.ErrClash] < 150 || count[api.ErrCycle] < 50 {
		t.Errorf("too few lists of a sort: %v", count)
	}
}

// applied is what a substitution makes of types.
func applied(t *testing.T, l []api.Bind, types []api.Type) (result []api.Type) {
	t.Helper()
	for _, u := range types {
		v, e := Apply(l, u)
		errs(t, showBinds(l), e, api.OK)
		result = append(result, v)
	}
	return result
}

// P3.9: the types become equal, twice is as once, and the order does not matter.
func TestSolution(t *testing.T) {
	forLists(t, func(m typeMaker, l []api.Type) {
		got, e := Solve(l)
		mixed := slices.Clone(l)
		m.Shuffle(len(l), func(i, j int) { mixed[i], mixed[j] = mixed[j], mixed[i] })
		other, f := Solve(mixed)
		if e != f {
			t.Fatalf("the order matters: %v: %d, %d", l, e, f)
		}
		if e != api.OK {
			return
		}
		once := applied(t, got, l)
		for _, u := range once {
			if !reflect.DeepEqual(u, once[0]) {
				t.Fatalf("%v are made %v", l, once)
			}
		}
		if twice := applied(t, got, once); !reflect.DeepEqual(twice, once) {
			t.Fatalf("%v are made %v, and these %v", l, once, twice)
		}
		for _, b := range got {
			if u, _ := Apply(got, b.Type); !reflect.DeepEqual(u, b.Type) {
				t.Fatalf("%s is not idempotent", showBinds(got))
			}
		}
		if a, b := rename(once[0]), rename(applied(t, other, mixed)[0]); !reflect.DeepEqual(a, b) {
			t.Fatalf("the order matters: %v: %s, %s", l, showScheme(a), showScheme(b))
		}
	})
}

// P3.9: each substitution that makes types equal is an instance of the one that is found.
func TestMostGeneral(t *testing.T) {
	m := newTypeMaker(2)
	for range 3000 {
		whole, of := m.typ(1, 4), map[string]api.Type{}
		whole = replaceVar(whole, "'z")
		var l []api.Type
		for range 2 + m.IntN(3) {
			l = append(l, m.hole(whole, of))
		}
		sigma := []api.Bind{}
		for k := range 8 {
			if u, ok := of[nameOf(k)]; ok {
				sigma = append(sigma, api.Bind{Var: nameOf(k), Type: u})
			}
		}
		got, e := Solve(l)
		if e != api.OK {
			t.Fatalf("Solve of %v: %d; a solution is %s", l, e, showBinds(sigma))
		}
		alone, after := applied(t, sigma, l), applied(t, sigma, applied(t, got, l))
		if !reflect.DeepEqual(alone, after) {
			t.Fatalf("%v: %s is no instance of %s", l, showBinds(sigma), showBinds(got))
		}
		for _, b := range sigma {
			u, _ := Apply(got, api.Type{Name: b.Var})
			if v, _ := Apply(sigma, u); !reflect.DeepEqual(v, b.Type) {
				t.Fatalf("%v: %s is no instance of %s", l, showBinds(sigma), showBinds(got))
			}
		}
	}
}
