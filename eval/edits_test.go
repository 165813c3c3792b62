package eval

import (
	"slices"
	"testing"

	"restitch/api"
)

// two is a list that most examples edit.
func two() api.Value { return val("Cons 1 (Cons 2 Nil)") }

// P6.3: the parts of values.
func TestPart(t *testing.T) {
	for _, c := range []struct {
		v    api.Value
		path []int
		want string
		e    api.Errno
	}{
		{two(), nil, "Cons[1 Cons[2 Nil]]", api.OK},
		{two(), []int{}, "Cons[1 Cons[2 Nil]]", api.OK},
		{two(), []int{0}, "1", api.OK},
		{two(), []int{1}, "Cons[2 Nil]", api.OK},
		{two(), []int{1, 0}, "2", api.OK},
		{two(), []int{1, 1}, "Nil", api.OK},
		{val("((1, A 2), 3)"), []int{0, 1, 0}, "2", api.OK},
		{two(), []int{2}, "", api.ErrNone},
		{two(), []int{-1}, "", api.ErrNone},
		{two(), []int{0, 0}, "", api.ErrNone},
		{two(), []int{1, 1, 0}, "", api.ErrNone},
		{two(), []int{1, 2, 0}, "", api.ErrNone},
		{two(), []int{1 << 62}, "", api.ErrNone},
		{num(3), []int{0}, "", api.ErrNone},
		{two(), make([]int, 100000), "", api.ErrNone},
		{nested(4000), make([]int, 3999), "Nil", api.OK},
		{nested(4000), make([]int, 4000), "", api.ErrNone},
	} {
		got, e := Part(c.v, c.path)
		errs(t, c.path, e, c.e)
		if e == api.OK {
			texts(t, c.path, show(got), c.want)
		} else if !same(got, api.Value{}) {
			t.Errorf("Part of %s with an error: %s", short(c.v), show(got))
		}
	}
	for i, v := range badValues() {
		if got, e := Part(v, []int{0}); e != api.ErrForm || !same(got, api.Value{}) {
			t.Errorf("bad value %d, %s: %s, error %d", i, short(v), short(got), e)
		}
	}
}

// P6.3: another value in the place of a part.
func TestPut(t *testing.T) {
	for _, c := range []struct {
		v    api.Value
		path []int
		x    api.Value
		want string
		e    api.Errno
	}{
		{two(), nil, num(3), "3", api.OK},
		{two(), []int{0}, num(3), "Cons[3 Cons[2 Nil]]", api.OK},
		{two(), []int{1}, num(3), "Cons[1 3]", api.OK},
		{two(), []int{1, 1}, two(), "Cons[1 Cons[2 Cons[1 Cons[2 Nil]]]]", api.OK},
		{val("((1, A 2), 3)"), []int{0, 1, 0}, val("(1, 2)"), ",[,[1 A[,[1 2]]] 3]", api.OK},
		{two(), []int{2}, num(3), "", api.ErrNone},
		{two(), []int{1, -1}, num(3), "", api.ErrNone},
		{num(1), []int{0}, num(3), "", api.ErrNone},
		{two(), make([]int, 100000), num(3), "", api.ErrNone},
		{two(), []int{1}, sized(3998), "", api.OK},
		{two(), []int{1}, sized(3999), "", api.ErrForm},
		{two(), []int{5}, sized(4000), "", api.ErrNone},
		{two(), nil, sized(4000), "", api.OK},
		{sized(4000), []int{0}, sized(3999), "", api.OK},
		{sized(4000), []int{0}, sized(4000), "", api.ErrForm},
	} {
		got, e := Put(c.v, c.path, c.x)
		errs(t, c.path, e, c.e)
		if e != api.OK && !same(got, api.Value{}) {
			t.Errorf("Put in %s with an error: %s", short(c.v), short(got))
		}
		if c.want != "" {
			texts(t, c.path, show(got), c.want)
		}
	}
	for i, v := range badValues() {
		got, e := Put(v, []int{9}, num(1))
		other, f := Put(two(), []int{9}, v)
		if e != api.ErrForm || f != api.ErrForm || !same(got, api.Value{}) || !same(other, api.Value{}) {
			t.Errorf("bad value %d, %s: errors %d and %d", i, short(v), e, f)
		}
	}
}

func put(x api.Value, path ...int) api.Edit {
	return api.Edit{Kind: api.EdPut, Path: path, Value: x}
}

func wrap(x api.Value, path ...int) api.Edit {
	return api.Edit{Kind: api.EdWrap, Path: path, Value: x}
}

func lift(n int, path ...int) api.Edit { return api.Edit{Kind: api.EdLift, Path: path, Num: n} }

// P6.4: what edits make.
func TestEdit(t *testing.T) {
	for _, c := range []struct {
		v    api.Value
		e    api.Edit
		want string
	}{
		{two(), put(num(7)), "7"},
		{two(), put(num(7), 0), "Cons[7 Cons[2 Nil]]"},
		{two(), put(val("Cons 3 Nil"), 1, 1), "Cons[1 Cons[2 Cons[3 Nil]]]"},
		{two(), wrap(val("Cons 9 ^"), 1), "Cons[1 Cons[9 Cons[2 Nil]]]"},
		{two(), wrap(val("Cons 9 ^")), "Cons[9 Cons[1 Cons[2 Nil]]]"},
		{two(), wrap(val("Cons 9 (Cons 8 ^)"), 1, 1), "Cons[1 Cons[2 Cons[9 Cons[8 Nil]]]]"},
		{two(), wrap(val("(^, (5, A))"), 0), "Cons[,[1 ,[5 A]] Cons[2 Nil]]"},
		{num(4), wrap(val("Some ^")), "Some[4]"},
		{two(), lift(1), "Cons[2 Nil]"},
		{two(), lift(0), "1"},
		{two(), lift(1, 1), "Cons[1 Nil]"},
		{val("(1, 2, (3, 4))"), lift(0, 2), ",[1 2 3]"},
		{two(), api.Edit{Kind: api.EdLift, Input: 5, Num: 1, Path: []int{}, Value: api.Value{Args: []api.Value{}}}, "Cons[2 Nil]"},
		{two(), api.Edit{Kind: api.EdPut, Input: -3}, "0"},
		{two(), api.Edit{Kind: api.EdWrap, Input: 1 << 40, Value: val("A ^")}, "A[Cons[1 Cons[2 Nil]]]"},
	} {
		got, e := Edit(c.v, c.e)
		errs(t, c.want, e, api.OK)
		texts(t, short(c.v), show(got), c.want)
	}
}

// P6.4: edits that are wrong, also in several ways.
func TestEditErrors(t *testing.T) {
	bad := con("x")
	manyHoles := con("A", sized(3998), con("^"), con("^"))
	for i, c := range []struct {
		v api.Value
		x api.Edit
		e api.Errno
	}{
		{bad, lift(1), api.ErrForm},
		{bad, api.Edit{}, api.ErrForm},
		{con("^"), put(num(1)), api.ErrForm},
		{two(), api.Edit{}, api.ErrArg},
		{two(), api.Edit{Kind: 4}, api.ErrArg},
		{two(), api.Edit{Kind: -1, Value: bad}, api.ErrArg},
		{two(), api.Edit{Kind: api.EdPut, Num: 1}, api.ErrArg},
		{two(), api.Edit{Kind: api.EdPut, Num: -1, Value: bad, Path: []int{9}}, api.ErrArg},
		{two(), api.Edit{Kind: api.EdWrap, Num: 1, Value: val("A ^")}, api.ErrArg},
		{two(), api.Edit{Kind: api.EdLift, Value: num(1)}, api.ErrArg},
		{two(), api.Edit{Kind: api.EdLift, Value: con("Nil")}, api.ErrArg},
		{two(), api.Edit{Kind: api.EdLift, Value: api.Value{Args: make([]api.Value, 1)}}, api.ErrArg},
		{two(), wrap(con("^")), api.ErrArg},
		{two(), wrap(con("^"), 9), api.ErrArg},
		{two(), wrap(num(3)), api.ErrArg},
		{two(), wrap(two(), 9), api.ErrArg},
		{two(), wrap(val("(^, ^)")), api.ErrArg},
		{two(), wrap(val("A ^ (A (A ^))")), api.ErrArg},
		{two(), wrap(con("x", con("^"), con("^"))), api.ErrArg},
		{two(), wrap(con("x")), api.ErrArg},
		{two(), wrap(endless()), api.ErrArg},
		{two(), wrap(con("A", vast(60), con("^"))), api.ErrArg},
		{two(), wrap(con("A", con("^"), con("^"), vast(60))), api.ErrArg},
		// The first 4001 values: the hole is the last one of them, or one more than they are.
		{two(), wrap(con("A", sized(3999), con("^"))), api.ErrForm},
		{two(), wrap(con("A", sized(4000), con("^"))), api.ErrArg},
		{two(), wrap(manyHoles), api.ErrArg},
		{two(), wrap(con("A", con("^"), sized(3999), con("^"))), api.ErrForm},
		{two(), wrap(con("A", con("^"), sized(3998), con("^"))), api.ErrArg},
		{two(), wrap(con("A", con("^"), vast(60))), api.ErrForm},
		{two(), wrap(con("A", con("^"), endless())), api.ErrForm},
		{num(1), wrap(con("A", sized(3998), con("^"))), api.OK},
		{two(), put(con("^")), api.ErrForm},
		{two(), put(val("A ^")), api.ErrForm},
		{two(), put(bad, 9), api.ErrForm},
		{two(), put(sized(4001)), api.ErrForm},
		{two(), put(endless()), api.ErrForm},
		{two(), wrap(con("x", con("^"))), api.ErrForm},
		{two(), wrap(con("x", con("^")), 9), api.ErrForm},
		{two(), wrap(con("A", con("^"), con("^", num(1)))), api.ErrForm},
		{two(), wrap(con("A", con("^"), api.Value{Con: "^", Num: 1})), api.ErrForm},
		{two(), wrap(con("A", con("^", con("^")))), api.ErrForm},
		{two(), wrap(api.Value{Args: []api.Value{con("^")}}), api.ErrForm},
		{two(), wrap(con(",", con("^"))), api.ErrForm},
		{two(), wrap(con("A", con("^", num(1)))), api.ErrArg},
		{two(), wrap(con("A", api.Value{Con: "^", Num: 1})), api.ErrArg},
		{two(), put(num(1), 2), api.ErrNone},
		{two(), put(num(1), 0, 0), api.ErrNone},
		{two(), wrap(val("A ^"), -1), api.ErrNone},
		{two(), lift(2), api.ErrNone},
		{two(), lift(-1), api.ErrNone},
		{two(), lift(0, 0), api.ErrNone},
		{two(), lift(0, 3), api.ErrNone},
		{two(), lift(0, make([]int, 50000)...), api.ErrNone},
		{two(), put(sized(3999), 1), api.ErrForm},
		{two(), put(sized(3998), 1), api.OK},
		{sized(3996), wrap(val("A 1 2 3 ^")), api.OK},
		{sized(3996), wrap(val("A 1 2 3 4 ^")), api.ErrForm},
		{sized(4000), lift(0), api.OK},
		{sized(4000), wrap(con("A", con("^"), sized(3990))), api.ErrForm},
	} {
		got, e := Edit(c.v, c.x)
		if e != c.e {
			t.Errorf("edit %d: error %d, expected %d", i, e, c.e)
		}
		if e != api.OK && !same(got, api.Value{}) {
			t.Errorf("edit %d with an error: %s", i, short(got))
		}
	}
	for i, v := range badValues() {
		_, e := Edit(v, put(num(1)))
		_, f := Edit(two(), put(v, 9))
		if e != api.ErrForm || f != api.ErrForm {
			t.Errorf("bad value %d, %s: errors %d and %d", i, short(v), e, f)
		}
	}
}

// P1: no result shares memory with an argument, nor with another part of itself.
func TestNewMemory(t *testing.T) {
	shared := two()
	v := pair(shared, con("Some", shared), shared)
	x := con("A", shared, shared)
	holed := con("A", con("^"), shared, shared)
	in := []api.NamedValue{{Name: "i", Value: list(num(1), num(2))}}
	p := program("data L = Nil | Cons Int L; input i : L; output a = (i, i); output b = i;")
	kept := []func() bool{keep(v), keep(x), keep(holed), keep(in[0].Value)}
	for i, make := range []func() []api.Value{
		func() []api.Value { r, _ := Part(v, nil); return []api.Value{r} },
		func() []api.Value { r, _ := Part(v, []int{1}); return []api.Value{r} },
		func() []api.Value { r, _ := Put(v, []int{1, 0}, x); return []api.Value{r} },
		func() []api.Value { r, _ := Put(v, nil, x); return []api.Value{r} },
		func() []api.Value { r, _ := Edit(v, put(x, 1, 0)); return []api.Value{r} },
		func() []api.Value { r, _ := Edit(v, wrap(holed, 1)); return []api.Value{r} },
		func() []api.Value { r, _ := Edit(v, lift(0, 1)); return []api.Value{r} },
		func() (l []api.Value) {
			found, _ := Matches(pat("(a, b, c)"), v)
			for _, n := range found {
				l = append(l, n.Value)
			}
			return l
		},
		func() []api.Value {
			o, _ := Run(p, in, 100)
			return []api.Value{o.Outputs[0].Value, o.Outputs[1].Value}
		},
	} {
		checkMemory(t, i, make)
		for k, isKept := range kept {
			if !isKept() {
				t.Errorf("result %d shares memory with argument %d", i, k)
			}
		}
	}
}

// checkMemory changes each part of a result, and looks at the others.
func checkMemory(t *testing.T, what int, make func() []api.Value) {
	t.Helper()
	whole := pair(make()...)
	for _, path := range paths(whole, nil) {
		result := pair(make()...)
		want := show(replaced(whole, path, con("Smear")))
		part := &result
		for _, i := range path {
			part = &part.Args[i]
		}
		smear(*part)
		*part = con("Smear")
		if got := show(result); got != want {
			t.Fatalf("result %d, changed at %v: %s, expected %s", what, path, got, want)
		}
	}
}

// paths returns the paths to all parts of a value.
func paths(v api.Value, to []int) [][]int {
	list := [][]int{slices.Clone(to)}
	for i, a := range v.Args {
		list = append(list, paths(a, append(slices.Clip(to), i))...)
	}
	return list
}

// leads reports whether one path leads through another one.
func leads(path, through []int) bool {
	return len(path) >= len(through) && slices.Equal(path[:len(through)], through)
}

// P6.11: Part of Put; parts elsewhere; two edits in any order; EdLift after EdWrap.
func TestPartLaws(t *testing.T) {
	d := newDice(11)
	apart := 0
	for range 4000 {
		v, x := d.value(4), d.value(2)
		all := paths(v, nil)
		path := pick(d, all)
		got, e := Put(v, path, x)
		part, f := Part(got, path)
		if e != api.OK || f != api.OK || !same(part, x) {
			t.Fatalf("Part of Put of %s in %s at %v: %s, errors %d and %d", show(x), show(v), path, show(part), e, f)
		}
		for _, other := range all {
			if leads(path, other) || leads(other, path) {
				continue
			}
			before, _ := Part(v, other)
			after, e := Part(got, other)
			if e != api.OK || !same(before, after) {
				t.Fatalf("Put of %s in %s at %v changes %v: %s", show(x), show(v), path, other, show(after))
			}
		}
		a, b := d.edit(v, path), d.edit(v, pick(d, all))
		if !leads(a.Path, b.Path) && !leads(b.Path, a.Path) {
			apart++
			if ab, ba := edits(v, a, b), edits(v, b, a); ab != ba {
				t.Fatalf("%v and %v of %s in both orders: %s and %s", a, b, show(v), ab, ba)
			}
		}
		wrapped := d.wrapping()
		field := slices.IndexFunc(wrapped.Args, isHole)
		if got := edits(v, wrap(wrapped, path...), lift(field, path...)); got != show(v) {
			t.Fatalf("lifted after it was wrapped at %v by %s: %s, before %s", path, show(wrapped), got, show(v))
		}
	}
	if apart < 500 {
		t.Errorf("just %d pairs of edits", apart)
	}
}

// edit makes an edit at a path of a value.
func (d dice) edit(v api.Value, path []int) api.Edit {
	switch part, _ := partAt(v, path); {
	case len(part.Args) > 0 && d.IntN(2) == 0:
		return lift(d.IntN(len(part.Args)), path...)
	case d.IntN(2) == 0:
		return wrap(d.wrapping(), path...)
	}
	return put(d.value(2), path...)
}

// wrapping makes a value with a hole at a field of its own.
func (d dice) wrapping() api.Value {
	v := pair(d.value(1), d.value(1))
	if d.IntN(2) == 0 {
		v = con("A", d.value(2), d.value(0), d.value(1))
	}
	v.Args[d.IntN(len(v.Args))] = con("^")
	return v
}

func edits(v api.Value, l ...api.Edit) string {
	for _, x := range l {
		next, e := Edit(v, x)
		if e != api.OK {
			return "an error"
		}
		v = next
	}
	return show(v)
}
