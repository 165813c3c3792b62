package match

import (
	"fmt"
	"strconv"
	"strings"
	"testing"

	"restitch/api"
)

// P5.1: what covers a type, and what is useless.
func TestCovers(t *testing.T) {
	ds := datas(library)
	for _, c := range []struct {
		kind, list string
		covers     bool
		useless    string
	}{
		{"List Int", "Nil; Cons _ Nil", false, ""},
		{"List Int", "Nil; Cons _ Nil; Cons _ (Cons _ _)", true, ""},
		{"List Int", "Nil; Cons x r", true, ""},
		{"List Int", "Nil", false, ""},
		{"List Int", "Nil; Nil", false, "1"},
		{"List Int", "_; Nil; x", true, "1 2"},
		{"List (List Int)", "Cons Nil _; Cons (Cons _ Nil) _; Nil", false, ""},
		{"List Bool", "Nil; Cons True _; Cons False _; Cons _ Nil", true, "3"},
		{"(Bool, Bool)", "(True, _); (_, True); (False, False)", true, ""},
		{"(Bool, Bool)", "(True, _); (_, True); (True, True); (False, False)", true, "2"},
		{"(Bool, Bool)", "(True, _); (_, True)", false, ""},
		{"(Bool, Bool)", "(True, True); (False, False); (True, _); (_, True); _", true, "4"},
		{"(Bool, Bool)", "(True, _); (False, _); (x, y); z", true, "2 3"},
		{"(Int, 'a)", "(x, y)", true, ""},
		{"(Int, 'a)", "(x, y); _", true, "1"},
		{"Int", "x", true, ""},
		{"Int", "_; x", true, "1"},
		{"Int -> Int", "f", true, ""},
		{"'a", "x; y", true, "1"},
		{"Stream", "S (S (S _))", true, ""},
		{"Stream", "S x; _", true, "1"},
		{"Tree", "Leaf; Node Leaf _ _; Node _ _ Leaf", false, ""},
		{"Tree", "Leaf; Node Leaf _ _; Node _ _ Leaf; Node (Node _ _ _) x (Node _ _ _)", true, ""},
		{"Four", "A; B; C", false, ""},
		{"Four", "A; B; C; D; _", true, "4"},
		{"(Four, Four)", "(A, B); (B, A); (A, _); (B, _); (_, C); (_, D); (D, x); (C, x)", true, ""},
		{"(Four, Four)", "(A, _); (_, A); (B, A); (B, _); (C, _); (D, _); (_, D)", true, "2 6"},
		{"Fun", "F f", true, ""},
		{"Both Bool", "Two (True, _); Two (_, False); One x", false, ""},
		{"Both Bool", "Two (True, _); Two (_, False); One x; Two (False, True)", true, ""},
	} {
		l := pats(c.list)
		witness, covers, e := Covers(ds, typ(c.kind), l)
		errs(t, c, e, api.OK)
		if covers != c.covers || covers && show(witness) != "!0" {
			t.Errorf("%v: %v with %s", c, covers, show(witness))
		}
		if !covers {
			errs(t, c, CheckWitness(ds, typ(c.kind), l, witness), api.OK)
		}
		useless, e := Useless(ds, typ(c.kind), l)
		errs(t, c, e, api.OK)
		same(t, c, showPath(useless), c.useless)
	}
}

// P5.1: which patterns are witnesses, and the order of errors.
func TestCheckWitness(t *testing.T) {
	ds := datas(library)
	for _, c := range []struct {
		kind, list, pat string
		want            api.Errno
	}{
		{"List Int", "Nil; Cons _ Nil", "Cons _ Nil", api.ErrOpen},
		{"List Int", "Nil; Cons _ Nil", "Cons _ (Cons _ Nil)", api.OK},
		{"List Int", "Nil; Cons _ Nil", "Cons _ (Cons _ _)", api.OK},
		{"List Int", "Nil; Cons _ Nil", "Cons x (Cons _ _)", api.ErrOpen},
		{"List Int", "Nil; Cons _ Nil", "Cons _ _", api.ErrOpen},
		{"List Int", "Nil; Cons _ Nil", "_", api.ErrOpen},
		{"List Int", "Nil; Cons _ Nil", "x", api.ErrOpen},
		{"List Int", "Nil; Cons _ Nil", "Leaf", api.ErrPat},
		{"List Int", "Nil; Cons _ Nil", "Cons x (Cons x _)", api.ErrVars},
		{"List Int", "Nil; Cons _ _", "Cons _ _", api.ErrOpen},
		{"List Int", "Nil; Leaf", "Cons x x", api.ErrPat},
		{"List Int", "Cons x x", "Leaf", api.ErrVars},
		{"List Int", "", "Nil", api.ErrPat},
		{"X", "Nil", "Nil", api.ErrData},
		{"(Bool, Bool)", "(True, True)", "(False, _)", api.OK},
		{"(Bool, Bool)", "(True, True)", "(_, False)", api.OK},
		{"(Bool, Bool)", "(True, True); (_, False)", "(False, _)", api.ErrOpen},
	} {
		errs(t, c, CheckWitness(ds, typ(c.kind), pats(c.list), pat(c.pat)), c.want)
	}
	l := pats("Nil; Cons _ Nil")
	for what, p := range map[string]api.Pat{
		"100 deep": nested(100), "60 deep": nested(60), "61 deep": nested(61),
	} {
		errs(t, what, CheckWitness(ds, typ("List Int"), l, p), api.OK)
	}
	errs(t, "101 deep", CheckWitness(ds, typ("List Int"), l, nested(101)), api.ErrDeep)
	errs(t, "endless", CheckWitness(ds, typ("List Int"), l, endlessPat("Cons")), api.ErrDeep)
	errs(t, "no pattern", CheckWitness(ds, typ("List Int"), l, api.Pat{}), api.ErrPat)
	vast := vastType(100, typ("Bool"))
	errs(t, "vast", CheckWitness(ds, vast, []api.Pat{vastPat(6, con("True"))}, vastPat(100, con("False"))), api.ErrPat)
	errs(t, "vast", CheckWitness(ds, vast, []api.Pat{vastPat(6, wild())}, vastPat(100, con("False"))), api.ErrOpen)
	list := typ("List (List Int)")
	list.Args[0].Args[0] = vastType(90, typ("Bool"))
	errs(t, "vast", CheckWitness(ds, list, pats("Nil"), con("Cons", con("Cons", vastPat(90, con("True")), wild()), wild())), api.OK)
	errs(t, "vast, with a variable", CheckWitness(ds, list, pats("Nil"), con("Cons", con("Cons", vastPat(90, con("True")), named("x")), wild())), api.ErrOpen)
}

// P5.1, P5.2, P5.4: the functions agree with slow ones that follow the document.
func TestCoversSlow(t *testing.T) {
	open, useless := 0, 0
	for seed := range uint64(6000) {
		r := newRandom(seed)
		ds := r.datas()
		kind := r.kind(ds)
		l := r.list(ds, kind)
		if r.IntN(2) == 0 {
			l = r.covering(ds, kind)
		}
		what := fmt.Sprintf("seed %d: %s", seed, showAll(l))
		witness, covers, e := Covers(ds, kind, l)
		errs(t, what, e, api.OK)
		if covers != slowCovers(ds, kind, l) {
			t.Fatalf("%s: covers is %v", what, covers)
		}
		if !covers {
			open++
			errs(t, what, CheckWitness(ds, kind, l, witness), api.OK)
			if slowCheckPat(ds, kind, witness) != api.OK || len(slowNames(witness)) > 0 || len(slowRest(ds, kind, witness, l)) == 0 {
				t.Errorf("%s: the witness is %s", what, show(witness))
			}
		}
		got, e := Useless(ds, kind, l)
		errs(t, what, e, api.OK)
		same(t, what, showPath(got), showPath(slowUseless(ds, kind, l)))
		useless += len(got)
	}
	if open < 500 || useless < 1000 {
		t.Errorf("only %d open lists and %d useless patterns", open, useless)
	}
}

// P5.1: random declarations, types and patterns, many of which are wrong, are judged as the document says.
func TestValidSlow(t *testing.T) {
	count := map[api.Errno]int{}
	for seed := range uint64(8000) {
		r := newRandom(seed)
		ds := r.datas()
		kind := r.kind(ds)
		p := r.pat(ds, kind, 4, 6)
		if r.IntN(3) == 0 {
			r.spoilDatas(ds)
		}
		if r.IntN(3) > 0 {
			p = r.spoil(p)
		}
		want := api.OK
		if !slowDatas(ds) {
			want = api.ErrData
		}
		errs(t, fmt.Sprint(seed, ds), CheckDatas(ds), want)
		if !slowType(ds, kind) {
			want = api.ErrData
		}
		errs(t, fmt.Sprint(seed, ds, kind), CheckType(ds, kind), want)
		cons, e := Constructors(ds, kind)
		errs(t, seed, e, want)
		if want == api.OK {
			same(t, seed, showCons(cons), showCons(slowCons(ds, kind)))
			want = slowCheckPat(ds, kind, p)
		}
		errs(t, fmt.Sprint(seed, ds, kind, p), CheckPat(ds, kind, p), want)
		errs(t, fmt.Sprint(seed, ds, kind, p), CheckPats(ds, kind, []api.Pat{p}), want)
		count[want]++
	}
	for _, e := range []api.Errno{api.OK, api.ErrData, api.ErrPat, api.ErrVars} {
		if count[e] < 80 {
			t.Errorf("error %d was looked for %d times", e, count[e])
		}
	}
}

// tupleOf returns a tuple of four tuples of four.
func tupleOf(l []api.Pat) api.Pat {
	return con(",", con(",", l[:4:4]...), con(",", l[4:8:8]...), con(",", l[8:12:12]...), con(",", l[12:16:16]...))
}

// P5.1: no list within the limits takes long.
func TestCoversHard(t *testing.T) {
	four := api.Type{Name: ",", Args: typs("Bool", "Bool", "Bool", "Bool")}
	sixteen := api.Type{Name: ",", Args: []api.Type{four, four, four, four}}
	for seed := range uint64(300) {
		r := newRandom(seed)
		for _, rows := range []int{5, 6, 7, 8, 9, 10, 11, 12} {
			var l []api.Pat
			for range rows {
				l = append(l, hardRow(r, 120/rows))
			}
			if areLong(l...) {
				t.Fatal("too long")
			}
			_, _, e := Covers(nil, sixteen, l)
			errs(t, "Covers", e, api.OK)
			_, e = Useless(nil, sixteen, l)
			errs(t, "Useless", e, api.OK)
			if l[rows-1] = wild(); rows < 12 {
				_, e = Compile(nil, sixteen, l)
				if e != api.ErrLong {
					errs(t, "Compile", e, api.OK)
				}
			}
		}
	}
}

// hardRow returns a pattern of at most n patterns, that asks for as many constructors as it can.
func hardRow(r random, n int) api.Pat {
	args := wilds(4)
	left := n - 5
	for _, i := range r.Perm(4) {
		if left < 4 {
			break
		}
		left -= 4
		args[i] = con(",", many(4, func(int) api.Pat {
			return pick(r, []api.Pat{con("True"), con("False"), con("True"), con("False"), wild()})
		})...)
	}
	return con(",", args...)
}

// P5.1: data types with as much as there may be.
func TestCoversLarge(t *testing.T) {
	var d api.Data
	d.Name = "Many"
	for k := range 16 {
		d.Cons = append(d.Cons, oneCon("M"+strconv.Itoa(k), many(16, func(int) api.Type { return typ("Many") })...))
	}
	ds := []api.Data{d}
	var l []api.Pat
	for k := range 7 {
		args := wilds(16)
		for i := range args {
			if (i+k)%3 > 0 {
				args[i] = named("x" + strconv.Itoa(i))
			}
		}
		l = append(l, con("M"+strconv.Itoa(k), args...))
	}
	witness, covers, e := Covers(ds, typ("Many"), l)
	errs(t, "large", e, api.OK)
	if covers || !strings.HasPrefix(show(witness), "M7 _ _") {
		t.Errorf("the witness is %s", show(witness))
	}
	l[6] = wild()
	_, covers, _ = Covers(ds, typ("Many"), l)
	tree, e := Compile(ds, typ("Many"), l)
	errs(t, "large", e, api.OK)
	if !covers || nodesOf(tree) != 17 {
		t.Errorf("a tree of %d", nodesOf(tree))
	}
	errs(t, "large", CheckTree(ds, typ("Many"), l, tree), api.OK)
}

// P5.1: a witness is new memory.
func TestWitnessNew(t *testing.T) {
	ds, kind := datas(library), typ("(Tree, (Tree, Bool))")
	l := pats("(Leaf, _); (_, (Leaf, _)); (_, (_, True))")
	before := showAll(l)
	witness, _, _ := Covers(ds, kind, l)
	text := show(witness)
	for i, p := range nodes(&witness) {
		was := p.Name
		p.Name = "Changed" + strconv.Itoa(i)
		p.Args = append(p.Args, named("more"))
		p.Args = p.Args[:len(p.Args)-1]
		p.Name = was
	}
	same(t, "the witness", show(witness), text)
	for _, p := range nodes(&witness) {
		p.Kind, p.Name = 9, "Changed"
	}
	same(t, "the list", showAll(l), before)
}
