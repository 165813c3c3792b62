package match

import (
	"math/rand/v2"
	"slices"
	"strconv"

	"restitch/api"
)

// random makes things for the tests.
type random struct{ *rand.Rand }

func newRandom(seed uint64) random { return random{rand.New(rand.NewPCG(seed, 5))} }

func pick[T any](r random, list []T) T { return list[r.IntN(len(list))] }

// datas makes valid data declarations.
func (r random) datas() []api.Data {
	ds := make([]api.Data, 1+r.IntN(4))
	for i := range ds {
		ds[i].Name = "T" + strconv.Itoa(i)
		ds[i].Vars = []string{"'a", "'b"}[:r.IntN(3)]
	}
	for i := range ds {
		for k := range 1 + r.IntN(4) {
			c := api.Con{Name: "C" + strconv.Itoa(i) + strconv.Itoa(k)}
			for range r.IntN(4) {
				c.Args = append(c.Args, r.field(ds, ds[i].Vars, 3))
			}
			ds[i].Cons = append(ds[i].Cons, c)
		}
	}
	return ds
}

// field makes the type of a field.
func (r random) field(ds []api.Data, vars []string, deep int) api.Type {
	n := r.IntN(10)
	switch {
	case n < 3 && len(vars) > 0:
		return api.Type{Name: pick(r, vars)}
	case n < 4 || deep == 0:
		return api.Type{Name: pick(r, []string{"Int", "Bool"})}
	case n < 5:
		return api.Type{Name: pick(r, []string{"->", ",", ","}), Args: []api.Type{r.field(ds, vars, deep-1), r.field(ds, vars, deep-1)}}
	}
	d := pick(r, ds)
	t := api.Type{Name: d.Name}
	for range d.Vars {
		if len(vars) > 0 && r.IntN(2) == 0 {
			t.Args = append(t.Args, api.Type{Name: pick(r, vars)})
		} else {
			t.Args = append(t.Args, r.field(ds, nil, deep-1))
		}
	}
	return t
}

// kind makes a valid type, mostly one that has constructors, now and then with a variable.
func (r random) kind(ds []api.Data) api.Type {
	for {
		t := r.field(ds, []string{"'x"}[:r.IntN(6)/5], 2)
		if len(slowCons(ds, t)) > 0 || r.IntN(10) == 0 {
			return t
		}
	}
}

// pat makes a pattern of a type; bold is how often, of 10 times, it asks for a constructor.
func (r random) pat(ds []api.Data, t api.Type, deep, bold int) api.Pat {
	next := 0
	var make func(t api.Type, deep int) api.Pat
	make = func(t api.Type, deep int) api.Pat {
		cons := slowCons(ds, t)
		if len(cons) > 0 && deep > 0 && r.IntN(10) < bold {
			c := pick(r, cons)
			p := con(c.Name)
			for _, f := range c.Args {
				p.Args = append(p.Args, make(f, deep-1))
			}
			return p
		}
		if r.IntN(2) == 0 {
			return wild()
		}
		next++
		return named("x" + strconv.Itoa(next))
	}
	return make(t, deep)
}

// list makes a valid list of patterns.
func (r random) list(ds []api.Data, t api.Type) []api.Pat {
	for {
		l := many(1+r.IntN(7), func(int) api.Pat { return r.pat(ds, t, 1+r.IntN(3), 6+r.IntN(5)) })
		if !areLong(l...) {
			return l
		}
	}
}

// covering makes a list that covers, with some of the patterns that are needed for that.
func (r random) covering(ds []api.Data, t api.Type) []api.Pat {
	for {
		l := r.list(ds, t)
		for range 6 {
			rest := slowRest(ds, t, wild(), l)
			if len(rest) == 0 {
				break
			}
			at := r.IntN(len(l) + 1)
			l = slices.Insert(l, at, r.wider(pick(r, rest)))
		}
		if !slowCovers(ds, t, l) {
			l = append(l, wild())
		}
		if len(l) <= api.MaxPats && !areLong(l...) {
			return l
		}
	}
}

// wider makes a pattern without variables that matches at least as much.
func (r random) wider(p api.Pat) api.Pat {
	if r.IntN(6) == 0 || p.Kind == api.PVar {
		return wild()
	}
	p.Args = slices.Clone(p.Args)
	for i := range p.Args {
		p.Args[i] = r.wider(p.Args[i])
	}
	return p
}

// value makes a value that a pattern matches, of a type; false if it finds none in a short time.
func (r random) value(ds []api.Data, t api.Type, p api.Pat, deep int) (api.Value, bool) {
	steps := 0
	var make func(t api.Type, p api.Pat, deep int) (api.Value, bool)
	make = func(t api.Type, p api.Pat, deep int) (api.Value, bool) {
		steps++
		cons := slowCons(ds, t)
		switch {
		case t.Name == "Int":
			return api.Value{Num: r.IntN(9) - 4}, true
		case len(cons) == 0:
			return api.Value{Con: "Any", Num: r.IntN(5)}, true
		case deep == 0:
			return api.Value{}, false
		}
		start := r.IntN(len(cons))
		for k := range cons {
			c := cons[(start+k)%len(cons)]
			args := wilds(len(c.Args))
			if p.Kind == api.PCon {
				if p.Name != c.Name {
					continue
				}
				args = p.Args
			}
			v, ok := api.Value{Con: c.Name}, steps < 200
			for i := 0; ok && i < len(args); i++ {
				var a api.Value
				a, ok = make(c.Args[i], args[i], deep-1)
				v.Args = append(v.Args, a)
			}
			if ok {
				return v, true
			}
		}
		return api.Value{}, false
	}
	return make(t, p, deep)
}

// nodes returns pointers to a pattern and those within it.
func nodes(p *api.Pat) []*api.Pat {
	result := []*api.Pat{p}
	for i := range p.Args {
		result = append(result, nodes(&p.Args[i])...)
	}
	return result
}

// spoil changes a pattern at one place.
func (r random) spoil(p api.Pat) api.Pat {
	p = copyPat(p)
	n := pick(r, nodes(&p))
	switch r.IntN(8) {
	case 6, 7:
		if n.Kind != api.PCon {
			*n = named("x1")
		}
	case 0:
		n.Kind = r.IntN(6) - 1
	case 1:
		n.Name = pick(r, []string{"", "x1", "x2", "C00", "C01", "True", ",", "case"})
	case 2:
		n.Args = append(n.Args, wild())
	case 3:
		if len(n.Args) > 0 {
			n.Args = n.Args[1:]
		}
	case 4:
		*n = named("x1")
	case 5:
		*n = con(pick(r, []string{"C00", "C01", "C10", "True", "False"}))
	}
	return p
}

// typesIn returns pointers to the types of fields, and those within them.
func typesIn(ds []api.Data) (result []*api.Type) {
	var visit func(t *api.Type)
	visit = func(t *api.Type) {
		result = append(result, t)
		for i := range t.Args {
			visit(&t.Args[i])
		}
	}
	for i := range ds {
		for k := range ds[i].Cons {
			for j := range ds[i].Cons[k].Args {
				visit(&ds[i].Cons[k].Args[j])
			}
		}
	}
	return result
}

// spoilDatas changes declarations at one place.
func (r random) spoilDatas(ds []api.Data) {
	d := &ds[r.IntN(len(ds))]
	c := &d.Cons[r.IntN(len(d.Cons))]
	names := []string{"T0", "T1", "T2", "C00", "C01", "C10", "Int", "Bool", "True", "'a", "'c", "x", "", ",", "->"}
	switch r.IntN(6) {
	case 0:
		d.Name = pick(r, names)
	case 1:
		c.Name = pick(r, names)
	case 2:
		d.Vars = append(slices.Clone(d.Vars), pick(r, names))
	case 3:
		d.Vars = nil
	default:
		if l := typesIn(ds); len(l) > 0 {
			t := pick(r, l)
			if r.IntN(3) == 0 {
				t.Args = append(slices.Clone(t.Args), r.field(ds, []string{"'a", "'b"}, 2))
			} else {
				*t = r.field(ds, []string{"'a", "'b"}, 2)
			}
		}
	}
}

// spoilTree changes a tree at one place.
func (r random) spoilTree(t api.Tree, arms int) api.Tree {
	t = copyTree(t)
	var all []*api.Tree
	var visit func(t *api.Tree)
	visit = func(t *api.Tree) {
		all = append(all, t)
		for i := range t.Branches {
			visit(&t.Branches[i].Tree)
		}
	}
	visit(&t)
	n := pick(r, all)
	switch r.IntN(7) {
	case 0:
		n.Arm = r.IntN(arms+2) - 1
	case 1:
		n.Path = append(n.Path, r.IntN(3)-1)
	case 2:
		if len(n.Path) > 0 {
			n.Path[r.IntN(len(n.Path))] = r.IntN(4) - 1
		}
	case 3:
		if len(n.Branches) > 0 {
			n.Branches[r.IntN(len(n.Branches))].Con = pick(r, []string{"C00", "C01", "C10", "True", ","})
		}
	case 4:
		if len(n.Branches) > 0 {
			n.Branches = n.Branches[1:]
		}
	case 5:
		*n = copyTree(*pick(r, all))
	case 6:
		*n = leaf(r.IntN(arms))
	}
	return t
}

// anyTree makes a tree that fits a list that covers, which tests in any order, and also what need not be tested.
func (r random) anyTree(ds []api.Data, t api.Type, l []api.Pat, known api.Pat, spare int) api.Tree {
	for arm, p := range l {
		if slowWithin(known, p) && spare == 0 {
			return leaf(arm)
		}
		if slowMeet(known, p) {
			break
		}
	}
	path, cons := r.place(ds, t, known, l, spare > 0)
	if len(cons) == 0 {
		return r.anyTree(ds, t, l, known, 0)
	}
	tree := api.Tree{Path: path}
	for _, c := range cons {
		rest := r.anyTree(ds, t, l, slowKnown(known, path, c), max(0, spare-1))
		tree.Branches = append(tree.Branches, api.Branch{Con: c.Name, Tree: rest})
	}
	return tree
}

// place picks a place that can be tested: any one, or one at which the first pattern that meets what is known asks for a constructor.
func (r random) place(ds []api.Data, t api.Type, known api.Pat, l []api.Pat, any bool) (path []int, cons []api.Con) {
	i := slices.IndexFunc(l, func(p api.Pat) bool { return slowMeet(known, p) })
	count := 0
	var visit func(t api.Type, known, p api.Pat, at []int)
	visit = func(t api.Type, known, p api.Pat, at []int) {
		all := slowCons(ds, t)
		if known.Kind == api.PWild {
			if len(all) > 0 && (any || p.Kind == api.PCon) {
				count++
				if r.IntN(count) == 0 {
					path, cons = slices.Clone(at), all
				}
			}
			return
		}
		for _, c := range all {
			if c.Name != known.Name {
				continue
			}
			args := wilds(len(c.Args))
			if p.Kind == api.PCon {
				args = p.Args
			}
			for k, f := range c.Args {
				visit(f, known.Args[k], args[k], append(slices.Clone(at), k))
			}
		}
	}
	visit(t, known, l[i], nil)
	return path, cons
}
