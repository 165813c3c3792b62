package eval

import (
	"slices"
	"testing"

	"restitch/api"
)

// P6.1: which values are valid.
func TestCheckValue(t *testing.T) {
	for i, v := range goodValues() {
		if e := CheckValue(v); e != api.OK {
			t.Errorf("good value %d, %s: error %d", i, short(v), e)
		}
	}
	for i, v := range badValues() {
		if e := CheckValue(v); e != api.ErrForm {
			t.Errorf("bad value %d, %s: error %d", i, short(v), e)
		}
	}
}

// P6.1: the numbers of values, and how deep they are.
func TestSizeDepth(t *testing.T) {
	for _, c := range []struct {
		v          api.Value
		size, deep int
	}{
		{num(7), 1, 1},
		{con("Nil"), 1, 1},
		{val("Some 3"), 2, 2},
		{val("(1, 2)"), 3, 2},
		{val("Cons 1 (Cons 2 Nil)"), 5, 3},
		{val("T (Cons 1 Nil) 2 (Some (Some (1, 2, 3, 4)))"), 12, 5},
		{val("T (Some (Some (Some 1))) 2 (Some 1)"), 8, 5},
		{sized(4000), 4000, 2001},
		{sized(3999), 3999, 2000},
		{nested(4000), 4000, 4000},
		{vast(10), 2047, 11},
		{wide("C", 16), 17, 2},
	} {
		if n, d := Size(c.v), Depth(c.v); n != c.size || d != c.deep {
			t.Errorf("%s: %d and %d deep, expected %d and %d", short(c.v), n, d, c.size, c.deep)
		}
	}
	for i, v := range badValues() {
		if n, d := Size(v), Depth(v); n != 0 || d != 0 {
			t.Errorf("bad value %d, %s: %d and %d deep", i, short(v), n, d)
		}
	}
}

// rising are values in their order.
func rising() []api.Value {
	list := []api.Value{num(-1 << 63), num(-2), num(0), num(1), num(10), num(1<<63 - 1)}
	for _, text := range []string{
		"(~1, 5)", "(0, 0)", "(1, 2)", "(1, 3)", "(1, Nil)", "(2, ~5)", "((5, 5), 1)", "(A, 0)", "(0, 0, 0)", "(0, 1, 0)", "(9, 0, 0)", "(0, 0, 0, 0)", "(0, 0, 0, A)",
		"A", "A 1", "A 2", "A (1, 1)", "A A", "A 0 0", "A 0 1", "A 1 0", "A (0, 0) 0", "A 0 0 0", "A'1", "AA", "A_", "Aa", "B", "B ~1", "Ba", "Cons 1 Nil", "Cons 2 (Cons 0 Nil)", "Cons 2 Nil", "Nil", "Z", "Z_",
	} {
		list = append(list, val(text))
	}
	return list
}

// P6.1: the order of values.
func TestOrder(t *testing.T) {
	list := rising()
	// The bytes of ' and the capital letters are before _ and the small letters.
	for i, a := range list {
		for j, b := range list {
			want := 0
			if i != j {
				want = 1
			}
			if i < j {
				want = -1
			}
			if got := Compare(a, b); got != want {
				t.Errorf("Compare(%s, %s) = %d, expected %d", show(a), show(b), got, want)
			}
			if got := Equal(a, b); got != (i == j) {
				t.Errorf("Equal(%s, %s) = %v", show(a), show(b), got)
			}
		}
	}
}

// P6.1: the order of great values, and of those that are not valid.
func TestCompareEdges(t *testing.T) {
	a, b := nested(4000), nested(4000)
	if Compare(a, b) != 0 || !Equal(a, b) || Compare(a, nested(3999)) != 1 || Compare(nested(3999), a) != -1 {
		t.Error("deep values are compared wrongly")
	}
	empty := api.Value{Con: "Nil", Args: []api.Value{}}
	if Compare(empty, con("Nil")) != 0 || !Equal(con("Nil"), empty) {
		t.Error("nil and empty lists are not the same")
	}
	for i, v := range badValues() {
		if Compare(v, num(1)) != 0 || Compare(con("Nil"), v) != 0 || Compare(v, v) != 0 {
			t.Errorf("bad value %d, %s: Compare is not 0", i, short(v))
		}
		if Equal(v, v) || Equal(v, num(0)) || Equal(num(0), v) {
			t.Errorf("bad value %d, %s: Equal is true", i, short(v))
		}
	}
}

// P6.13: Compare is an order.
func TestOrderLaws(t *testing.T) {
	d := newDice(13)
	count := map[int]int{}
	for range 20000 {
		a, b, c := d.value(3), d.value(3), d.value(3)
		ab, bc, ac := Compare(a, b), Compare(b, c), Compare(a, c)
		count[ab]++
		if (ab == 0) != same(a, b) || (ab == 0) != Equal(a, b) {
			t.Fatalf("Compare(%s, %s) = %d", show(a), show(b), ab)
		}
		if Compare(b, a) != -ab {
			t.Fatalf("Compare of %s and %s does not change its sign", show(a), show(b))
		}
		if ab <= 0 && bc <= 0 && (ac > 0 || ac == 0 && ab+bc < 0) {
			t.Fatalf("Compare is not transitive for %s, %s, %s", show(a), show(b), show(c))
		}
	}
	if count[-1] < 5000 || count[0] < 500 || count[1] < 5000 {
		t.Errorf("the results are %v", count)
	}
	all := rising()
	for range 100 {
		l := slices.Clone(all)
		d.Shuffle(len(l), func(i, j int) { l[i], l[j] = l[j], l[i] })
		slices.SortFunc(l, Compare)
		if !same(l, all) {
			t.Fatal("sorted values are not in their order")
		}
	}
}
