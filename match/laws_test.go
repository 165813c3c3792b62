package match

import (
	"fmt"
	"slices"
	"testing"

	"restitch/api"
)

// forLists looks at random lists of patterns, half of which cover.
func forLists(n uint64, look func(r random, what string, ds []api.Data, kind api.Type, l []api.Pat)) {
	for seed := range n {
		r := newRandom(seed + 1000000)
		ds := r.datas()
		kind := r.kind(ds)
		l := r.list(ds, kind)
		if r.IntN(2) == 0 {
			l = r.covering(ds, kind)
		}
		look(r, fmt.Sprintf("seed %d: %s", seed, showAll(l)), ds, kind, l)
	}
}

// values makes some values of a type, mostly ones that one of some patterns matches.
func (r random) values(ds []api.Data, kind api.Type, l ...api.Pat) (result []api.Value) {
	for range 8 {
		from := wild()
		if r.IntN(4) > 0 {
			from = pick(r, l)
		}
		if v, ok := r.value(ds, kind, from, 7); ok && !isLarge(v) {
			result = append(result, v)
		}
	}
	return result
}

// P5.2: what Covers reports is what Select does.
func TestWitnessLaw(t *testing.T) {
	open, covered := 0, 0
	forLists(2000, func(r random, what string, ds []api.Data, kind api.Type, l []api.Pat) {
		witness, covers, _ := Covers(ds, kind, l)
		if !covers {
			errs(t, what, CheckWitness(ds, kind, l, witness), api.OK)
			for range 5 {
				if v, ok := r.value(ds, kind, witness, 9); ok {
					open++
					_, _, e := Select(l, v)
					errs(t, what+": "+showValue(v), e, api.ErrNone)
				}
			}
			return
		}
		for _, v := range r.values(ds, kind, l...) {
			covered++
			_, _, e := Select(l, v)
			errs(t, what+": "+showValue(v), e, api.OK)
		}
		for range 5 {
			p := r.pat(ds, kind, 5, 10)
			if e := CheckWitness(ds, kind, l, p); e != api.ErrOpen {
				t.Errorf("%s: error %d of %s", what, e, show(p))
			}
		}
	})
	if open < 300 || covered < 3000 {
		t.Errorf("only %d and %d values", open, covered)
	}
}

// P5.3: trees lead to what Select selects.
func TestTreeLaw(t *testing.T) {
	walked := 0
	forLists(2000, func(r random, what string, ds []api.Data, kind api.Type, l []api.Pat) {
		tree, e := Compile(ds, kind, l)
		if e == api.ErrOpen || e == api.ErrLong {
			return
		}
		trees := []api.Tree{tree, r.anyTree(ds, kind, l, wild(), 0), r.anyTree(ds, kind, l, wild(), 2)}
		for i, tree := range trees {
			if e := CheckTree(ds, kind, l, tree); i == 0 || nodesOf(tree) <= api.MaxTree {
				errs(t, what, e, api.OK)
			}
			for _, v := range r.values(ds, kind, l...) {
				walked++
				want, _, _ := Select(l, v)
				got, e := Walk(tree, v)
				errs(t, what, e, api.OK)
				if got != want {
					t.Errorf("%s: %s leads to %d", what, showValue(v), got)
				}
			}
		}
	})
	if walked < 8000 {
		t.Errorf("only %d values", walked)
	}
}

// P5.4: no useless pattern is selected, and nothing is another without it.
func TestUselessLaw(t *testing.T) {
	count := 0
	forLists(2000, func(r random, what string, ds []api.Data, kind api.Type, l []api.Pat) {
		useless, _ := Useless(ds, kind, l)
		_, before, _ := Covers(ds, kind, l)
		values := r.values(ds, kind, l...)
		for _, i := range useless {
			count++
			rest := slices.Delete(slices.Clone(l), i, i+1)
			if len(rest) == 0 {
				t.Fatalf("%s: all are useless", what)
			}
			if _, after, _ := Covers(ds, kind, rest); after != before {
				t.Errorf("%s: without %d it covers: %v", what, i, after)
			}
			for _, v := range values {
				a, _, e1 := Select(l, v)
				b, _, e2 := Select(rest, v)
				if e1 == api.OK && b >= i {
					b++
				}
				if e1 == api.OK && a == i || a != b || e1 != e2 {
					t.Errorf("%s: %s selects %d, without %d it selects %d", what, showValue(v), a, i, b)
				}
			}
		}
	})
	if count < 1000 {
		t.Errorf("only %d useless patterns", count)
	}
}

// P5.5: one more pattern, and those after one that matches all.
func TestOrderLaw(t *testing.T) {
	forLists(2000, func(r random, what string, ds []api.Data, kind api.Type, l []api.Pat) {
		if len(l) == api.MaxPats {
			return
		}
		more := slices.Insert(slices.Clone(l), r.IntN(len(l)+1), r.pat(ds, kind, 3, 7))
		_, covers, _ := Covers(ds, kind, l)
		if _, still, e := Covers(ds, kind, more); e == api.OK && covers && !still {
			t.Errorf("%s: covers no more with %s", what, showAll(more))
		}
		at := r.IntN(len(l) + 1)
		open := slices.Insert(slices.Clone(l), at, pick(r, pats("_; x")))
		useless, _ := Useless(ds, kind, open)
		for i := at + 1; i < len(open); i++ {
			if !slices.Contains(useless, i) && !areLong(open...) {
				t.Errorf("%s: %d is not useless behind %d", what, i, at)
			}
		}
		if _, covers, e := Covers(ds, kind, open); e == api.OK && !covers {
			t.Errorf("%s: does not cover", showAll(open))
		}
	})
}

// P5.6: what variables stand for is where they are.
func TestBindsLaw(t *testing.T) {
	count := 0
	forLists(2000, func(r random, what string, ds []api.Data, kind api.Type, l []api.Pat) {
		for _, v := range r.values(ds, kind, l...) {
			arm, binds, e := Select(l, v)
			if e != api.OK {
				continue
			}
			slots, e := Slots(l[arm])
			errs(t, what, e, api.OK)
			var want []api.NamedValue
			var names []string
			for _, s := range slots {
				part, e := At(v, s.Path)
				errs(t, what, e, api.OK)
				want = append(want, api.NamedValue{Name: s.Name, Value: part})
				names = append(names, s.Name)
			}
			count += len(want)
			same(t, what, showBinds(binds), showBinds(want))
			if !slices.Equal(names, Variables(l[arm])) {
				t.Errorf("%s: the variables are %v", what, names)
			}
			if ok, _ := Matches(l[arm], v); !ok || slices.ContainsFunc(l[:arm], func(p api.Pat) bool { ok, _ := Matches(p, v); return ok }) {
				t.Errorf("%s: %d is not the first one", what, arm)
			}
		}
	})
	if count < 2000 {
		t.Errorf("only %d variables", count)
	}
}
