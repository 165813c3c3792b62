package infer

import (
	"reflect"
	"slices"
	"testing"

	"restitch/api"
)

// P3.4: Close and Rename.
func TestCloseRename(t *testing.T) {
	for _, c := range [][3]string{
		{"Int", ". Int", ". Int"},
		{"'x -> 'b -> 'x", "'x 'b. 'x -> 'b -> 'x", "'a 'b. 'a -> 'b -> 'a"},
		{"'b -> 'a", "'b 'a. 'b -> 'a", "'a 'b. 'a -> 'b"},
		{"Map 'z (List 'y, 'z)", "'z 'y. Map 'z (List 'y, 'z)", "'a 'b. Map 'a (List 'b, 'a)"},
	} {
		s, e := Close(typ(c[0]))
		errs(t, c, e, api.OK)
		r, f := Rename(s)
		errs(t, c, f, api.OK)
		if showScheme(s) != c[1] || showScheme(r) != c[2] {
			t.Errorf("%s: Close %s, Rename %s", c[0], showScheme(s), showScheme(r))
		}
		back := api.Scheme{Vars: slices.Clone(s.Vars), Type: s.Type}
		slices.Reverse(back.Vars)
		if r, f = Rename(back); f != api.OK || showScheme(r) != c[2] {
			t.Errorf("%s: Rename %s, %d", showScheme(back), showScheme(r), f)
		}
	}
}

// P3.4: the errors of Close and Rename.
func TestCloseRenameErrors(t *testing.T) {
	for i, u := range untypes() {
		s, e := Close(u)
		errs(t, i, e, api.ErrUntype)
		r, f := Rename(api.Scheme{Type: u})
		errs(t, i, f, api.ErrUntype)
		if !reflect.DeepEqual(s, api.Scheme{}) || !reflect.DeepEqual(r, api.Scheme{}) {
			t.Errorf("type %d: a scheme with an error: %v, %v", i, s, r)
		}
	}
	for text, want := range map[string]api.Errno{
		". 'a": api.ErrArg, "'a. 'a -> 'b": api.ErrArg, "'b. 'a -> 'b": api.ErrArg,
		"'a 'a. 'a": api.ErrUntype, "'a 'a. 'a -> 'b": api.ErrUntype, "'b. 'a": api.ErrUntype,
	} {
		r, e := Rename(scheme(text))
		errs(t, text, e, want)
		if !reflect.DeepEqual(r, api.Scheme{}) {
			t.Errorf("%s: a scheme with an error: %v", text, r)
		}
	}
}

// P3.4: the k-th names of variables.
func TestNames(t *testing.T) {
	n := 0
	s, _ := Close(broad(1000, func() api.Type { n++; return api.Type{Name: nameOf(n + 5000)} }))
	r, e := Rename(s)
	errs(t, "many variables", e, api.OK)
	for k, want := range map[int]string{0: "'a", 1: "'b", 25: "'z", 26: "'a1", 27: "'b1", 51: "'z1", 52: "'a2", 77: "'z2", 259: "'z9", 260: "'a10", 701: "'z26", 702: "'a27"} {
		if r.Vars[k] != want {
			t.Errorf("the name %d is %s, expected %s", k, r.Vars[k], want)
		}
	}
	if CheckScheme(r) != api.OK || !slices.Equal(r.Vars, Vars(r.Type)) || len(r.Vars) != n {
		t.Error("the names of many variables")
	}
}

// P3.5: Match and Instance.
func TestMatch(t *testing.T) {
	for _, c := range []struct {
		s, t, want string
		ok         bool
	}{
		{"'a 'b. 'a -> 'b", "Int -> Int", "'a: Int; 'b: Int", true},
		{"'b 'a. 'a -> 'b", "Int -> Bool", "'b: Bool; 'a: Int", true},
		{"'a. 'a -> 'a", "Int -> Int", "'a: Int", true},
		{"'a. 'a -> 'a", "Int -> Bool", "", false},
		{"'a. 'a -> 'a", "'a -> Int", "", false},
		{"'a. 'a -> 'a", "List ('b, 'a) -> List ('b, 'a)", "'a: List ('b, 'a)", true},
		{"'a. 'a -> 'a", "List ('b, 'a) -> List ('a, 'b)", "", false},
		{"'a. 'a", "'a -> 'a", "'a: 'a -> 'a", true},
		{"'a. 'a", "'a", "'a: 'a", true},
		{"'a. 'a", "'b", "'a: 'b", true},
		{"'a 'b. ('a, 'b)", "('b, 'a)", "'a: 'b; 'b: 'a", true},
		{". Int", "Int", "", true},
		{". Int", "'a", "", false},
		{". 'a", "'a", "", true},
		{". 'a", "'b", "", false},
		{". 'a", "Int", "", false},
		{"'b. 'a -> 'b", "'a -> 'a", "'b: 'a", true},
		{"'b. 'a -> 'b", "'b -> 'a", "", false},
		{"'b. 'a -> 'b -> 'a", "'a -> Int -> 'a", "'b: Int", true},
		{"'a. List 'a", "Tree Int", "", false},
		{"'a. List 'a", "List", "", false},
		{"'a. List 'a", "Int", "", false},
		{"'a 'b. ('a, 'b)", "(Int, Int, Int)", "", false},
		{"'a 'b. ('a, 'b)", "Int -> Int", "", false},
		{"'a 'a. 'a", "Int", "", false},
		{"'b. 'a", "'a", "", false},
	} {
		got, ok := Match(scheme(c.s), typ(c.t))
		if ok != c.ok || showBinds(got) != c.want {
			t.Errorf("Match of %s and %s: %s, %v", c.s, c.t, showBinds(got), ok)
		}
		if Instance(scheme(c.s), typ(c.t)) != c.ok {
			t.Errorf("Instance of %s and %s is not %v", c.s, c.t, c.ok)
		}
	}
	for i, u := range untypes() {
		for _, s := range []api.Scheme{{Type: u}, {Vars: []string{"'a"}, Type: typ("'a")}} {
			if l, ok := Match(s, u); ok || len(l) != 0 || Instance(s, u) {
				t.Errorf("type %d is an instance", i)
			}
		}
		if Instance(api.Scheme{Type: u}, typ("Int")) {
			t.Errorf("type %d has an instance", i)
		}
	}
}

// P3.5: General.
func TestGeneral(t *testing.T) {
	for _, c := range []struct {
		a, b string
		want bool
	}{
		{"'a. 'a -> 'a", ". Int -> Int", true},
		{". Int -> Int", "'a. 'a -> 'a", false},
		{"'a. 'a -> 'a", "'a. 'a -> Int", false},
		{"'a. 'a -> Int", "'a. 'a -> 'a", false},
		{"'a. 'a", "'a 'b. 'a -> 'b", true},
		{"'a 'b. 'a -> 'b", "'b. 'b -> 'b", true},
		{"'b. 'b -> 'b", "'a 'b. 'a -> 'b", false},
		{"'a 'b. ('a, 'b)", "'b 'a. ('a, 'b)", true},
		{"'a 'b. ('a, 'b)", "'a 'b. ('b, 'a)", true},
		{". Int", ". Int", true},
		{". 'a", ". 'a", false},
		{"'a. 'a", ". 'a", false},
		{". 'a", "'a. 'a", false},
		{"'a. 'a", "'a 'a. 'a", false},
		{"'a 'a. 'a", "'a. 'a", false},
		{"'b. 'a -> 'b", "'a 'b. 'a -> 'b", false},
		{"'a 'b. 'a -> 'b", "'b. 'a -> 'b", false},
	} {
		if General(scheme(c.a), scheme(c.b)) != c.want {
			t.Errorf("General of %s and %s is not %v", c.a, c.b, c.want)
		}
	}
	for i, u := range untypes() {
		if General(api.Scheme{Type: u}, closed("Int")) || General(closed("'a"), api.Scheme{Type: u}) || General(api.Scheme{Type: u}, api.Scheme{Type: u}) {
			t.Errorf("type %d is as general as another one", i)
		}
	}
}

// P3.10: General is reflexive and transitive, Rename decides whether schemes are the same, Match of an instance returns what makes it.
func TestInstances(t *testing.T) {
	m := newTypeMaker(4)
	var list []api.Scheme
	for range 70 {
		s, _ := Close(m.typ(3, 2))
		list = append(list, s)
	}
	for _, a := range list {
		if !General(a, a) {
			t.Fatalf("%s is not as general as it is", showScheme(a))
		}
		for _, b := range list {
			ra, _ := Rename(a)
			rb, _ := Rename(b)
			if both := General(a, b) && General(b, a); both != reflect.DeepEqual(ra, rb) {
				t.Fatalf("%s and %s: each as general as the other one: %v", showScheme(a), showScheme(b), both)
			}
			if !General(a, b) {
				continue
			}
			for _, c := range list {
				if General(b, c) && !General(a, c) {
					t.Fatalf("%s, %s, %s", showScheme(a), showScheme(b), showScheme(c))
				}
			}
		}
	}
}

func TestMatchBack(t *testing.T) {
	m := newTypeMaker(5)
	for range 3000 {
		s := api.Scheme{Type: m.typ(4, 3)}
		vars := Vars(s.Type)
		m.Shuffle(len(vars), func(i, j int) { vars[i], vars[j] = vars[j], vars[i] })
		var sigma []api.Bind
		for _, v := range vars[:m.IntN(len(vars)+1)] {
			s.Vars = append(s.Vars, v)
			sigma = append(sigma, api.Bind{Var: v, Type: m.typ(4, 2)})
		}
		u, _ := Apply(sigma, s.Type)
		got, ok := Match(s, u)
		if !ok || !reflect.DeepEqual(got, sigma) {
			t.Fatalf("Match of %s and %s: %s, %v; expected %s", showScheme(s), show(u), showBinds(got), ok, showBinds(sigma))
		}
		other := m.typ(4, 3)
		if got, ok = Match(s, other); ok {
			if back, _ := Apply(got, s.Type); !reflect.DeepEqual(back, other) {
				t.Fatalf("Match of %s and %s: %s", showScheme(s), show(other), showBinds(got))
			}
		}
	}
}
