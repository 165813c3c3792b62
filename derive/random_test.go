package derive

import (
	"math/rand/v2"
	"slices"
	"strconv"
	"testing"

	"restitch/api"
	"restitch/infer"
	"restitch/syntax"
)

// dice make random things; expressions need not have types.
type dice struct{ *rand.Rand }

func newDice(seed uint64) dice { return dice{rand.New(rand.NewPCG(seed, 4))} }

func pick[T any](d dice, l []T) T { return l[d.IntN(len(l))] }

// common declares names for random programs, in the declarations 4 to 8.
const common = "input i : Ints; fun id x = x; fun fst p = case p of (x, _) => x end; fun map f = fn l => case l of Nil => Nil | Cons x t => Cons (f x) (map f t) end; " +
	"fun app f = fn x => f x; "

// expr makes an expression with variables of some names.
func (d dice) expr(names []string, deep int) api.Expr {
	if deep == 0 || d.IntN(6) == 0 {
		if d.IntN(4) == 0 {
			return pick(d, []api.Expr{{Kind: api.ENum, Num: 7}, {Kind: api.ECon, Name: "Nil"}, {Kind: api.ECon, Name: "True"}, {Kind: api.ECon, Name: "End"}})
		}
		return api.Expr{Kind: api.EVar, Name: pick(d, names)}
	}
	sub := func(more ...string) api.Expr {
		return d.expr(append(slices.Clip(names), append(more, more...)...), deep-1)
	}
	x, y := pick(d, []string{"x", "y", "z"}), pick(d, []string{"u", "v", "id"})
	switch d.IntN(13) {
	case 0, 1, 2:
		return api.Expr{Kind: api.EApp, Args: []api.Expr{{Kind: api.EVar, Name: pick(d, names)}, sub()}}
	case 3:
		return api.Expr{Kind: api.EApp, Args: []api.Expr{sub(), sub()}}
	case 4, 5:
		return api.Expr{Kind: api.EFn, Arg: x, Args: []api.Expr{sub(x)}}
	case 6, 7:
		return api.Expr{Kind: api.ELet, Name: x, Args: []api.Expr{sub(), sub(x)}}
	case 8:
		return api.Expr{Kind: api.ERec, Name: y, Arg: x, Args: []api.Expr{sub(x, y), sub(y)}}
	case 9:
		few := d.expr([]string{pick(d, names)}, d.IntN(2))
		return api.Expr{Kind: api.EOp, Name: pick(d, []string{"+", "<", "=", "/"}), Args: []api.Expr{few, pick(d, []api.Expr{few, {Kind: api.ENum}, sub()})}}
	case 10:
		return pick(d, []func() api.Expr{
			func() api.Expr { return api.Expr{Kind: api.ECon, Name: ",", Args: []api.Expr{sub(), sub()}} },
			func() api.Expr { return api.Expr{Kind: api.ECon, Name: "Cons", Args: []api.Expr{sub(), sub()}} },
			func() api.Expr { return api.Expr{Kind: api.ECon, Name: "P", Args: []api.Expr{sub(), sub()}} },
			func() api.Expr { return api.Expr{Kind: api.ECon, Name: "Item", Args: []api.Expr{sub(), sub()}} },
		})()
	}
	return d.cases(sub, x, y)
}

func (d dice) cases(sub func(...string) api.Expr, x, y string) api.Expr {
	e := api.Expr{Kind: api.ECase, Args: []api.Expr{sub()}}
	arms := pick(d, []string{x, "_", "(" + x + ", " + y + ")", "P (Cons " + x + " _) " + y, "Cons " + x + " " + y, "Cons (" + x + ", w) Nil", "Item " + x + " " + y, "True"})
	e.Pats = append(e.Pats, pat(arms))
	e.Args = append(e.Args, sub(x, y))
	if d.IntN(2) == 0 {
		e.Pats = append(e.Pats, pat(pick(d, []string{x, "_"})))
		e.Args = append(e.Args, sub(x))
	}
	return e
}

// program makes a program, whose bodies are tried until they have types.
func (d dice) program(values bool) api.Program {
	p := program(library + common)
	names := []string{"id", "fst", "map", "app"}
	kept := 0
	for tries := 0; tries < 60 && kept < 4; tries++ {
		q := api.Program{Decls: append(slices.Clip(p.Decls), d.decl(names, "d"+strconv.Itoa(kept), values))}
		if _, _, e := infer.Infer(q); e != api.OK {
			continue
		}
		p = q
		kept++
		last := p.Decls[len(p.Decls)-1]
		for _, f := range last.Funs {
			names = append(names, f.Name)
		}
	}
	return p
}

func (d dice) decl(names []string, name string, values bool) api.Decl {
	deep := 1 + d.IntN(4)
	switch d.IntN(4) {
	case 0:
		body := d.expr(append(slices.Clip(names), "i"), deep)
		if values && d.IntN(2) == 0 {
			return api.Decl{Kind: api.DVal, Name: name, Body: body}
		}
		return api.Decl{Kind: api.DOutput, Name: name, Body: body}
	case 1:
		f, g := name, name+"'1"
		inner := append(slices.Clip(names), f, g, f, g, "x", "x")
		return api.Decl{Kind: api.DFuns, Funs: []api.Fun{{Name: f, Arg: "x", Body: d.expr(inner, deep)}, {Name: g, Arg: "x", Body: d.expr(inner, deep)}}}
	}
	inner := append(slices.Clip(names), name, "x", "x", "x")
	return api.Decl{Kind: api.DFuns, Funs: []api.Fun{{Name: name, Arg: "x", Body: d.expr(inner, deep)}}}
}

// forPrograms looks at random programs that have types.
func forPrograms(seed uint64, n int, values bool, look func(d dice, p api.Program)) {
	d := newDice(seed)
	for range n {
		look(d, d.program(values))
	}
}

func textOf(p api.Program) string {
	text, _ := syntax.Print(p)
	return text
}

// typ makes a type; one in three is not known, or not valid.
func (d dice) typ() api.Type {
	t := typ(pick(d, []string{"Int", "Int", "Bool", "Ints", "'a", "'t0", "'t1", "Int -> Int", "'t0 -> 't1", "List Int", "List 't0", "(Int, 't0)", "Pair Int Bool", "Op"}))
	switch d.IntN(12) {
	case 0:
		t.Args = append(t.Args, theInt())
	case 1:
		t.Name = pick(d, []string{"Nope", "", "List", "->", ",", "x", "'"})
	case 2:
		t = api.Type{Name: "List", Args: []api.Type{{Name: "Nope"}}}
	case 3:
		t = api.Type{Name: ",", Args: []api.Type{t, {Name: "Pair"}}}
	}
	return t
}

// typesIn returns pointers to the types of an expression, and to the parts of these if they are asked for.
func typesIn(x *api.Typed, whole bool) (l []*api.Type) {
	var parts func(t *api.Type)
	parts = func(t *api.Type) {
		l = append(l, t)
		for i := range t.Args {
			if !whole {
				parts(&t.Args[i])
			}
		}
	}
	parts(&x.Type)
	for i := range x.Inst {
		parts(&x.Inst[i])
	}
	for i := range x.Args {
		l = append(l, typesIn(&x.Args[i], whole)...)
	}
	return l
}

func typedIn(x *api.Typed) []*api.Typed {
	l := []*api.Typed{x}
	for i := range x.Args {
		l = append(l, typedIn(&x.Args[i])...)
	}
	return l
}

// spoilTyped changes something in the types of an expression.
func (d dice) spoilTyped(x *api.Typed) {
	y := pick(d, typedIn(x))
	switch d.IntN(12) {
	case 0:
		y.Inst = append(slices.Clip(y.Inst), d.typ())
	case 1:
		y.Inst = y.Inst[:len(y.Inst)/2]
	case 2:
		y.Args = append(slices.Clip(y.Args), ty("Int"))
	case 3:
		y.Args = y.Args[:len(y.Args)/2]
	case 4, 5:
		// All types that are written as one are changed, so that more of the rules hold.
		from, into := key(*pick(d, typesIn(x, true))), d.typ()
		for _, t := range typesIn(x, true) {
			if key(*t) == from {
				*t = copyType(into)
			}
		}
	case 6, 7, 8:
		*pick(d, typesIn(x, false)) = d.typ()
	default:
		*pick(d, typesIn(x, true)) = copyType(*pick(d, typesIn(x, false)))
	}
}

// spoil changes something in a derivation, which keeps its form.
func (d dice) spoil(x *api.Derivation) {
	if d.IntN(8) == 0 {
		s := &x.Schemes[d.IntN(len(x.Schemes))].Scheme
		switch d.IntN(4) {
		case 0:
			s.Vars = append(slices.Clip(s.Vars), pick(d, []string{"'a", "'b", "Int", ""}))
		case 1:
			s.Vars = s.Vars[:len(s.Vars)/2]
		case 2:
			s.Type = d.typ()
		case 3:
			slices.Reverse(s.Vars)
		}
		return
	}
	b := &x.Bodies[d.IntN(len(x.Bodies))]
	if d.IntN(6) > 0 {
		d.spoilTyped(&b.Args[0])
		return
	}
	switch d.IntN(4) {
	case 0:
		b.Type = d.typ()
	case 1:
		b.Inst = append(slices.Clip(b.Inst), d.typ())
	case 2:
		slices.Reverse(b.Inst)
	case 3:
		b.Inst = b.Inst[:len(b.Inst)/2]
	}
}

// P4.1: the place at which a derivation is wrong is that of a slow reading of the chapter.
func TestCheckSlow(t *testing.T) {
	right, whole, inner := 0, 0, 0
	forPrograms(1, 500, true, func(d dice, p api.Program) {
		ds, _, _ := infer.Datas(p)
		x := derived(p)
		for range 12 {
			y := copyDerivation(x)
			for range 1 + d.IntN(2) {
				d.spoil(&y)
			}
			at, e := Check(p, y)
			want, ok := slow{ds}.check(p, y)
			if ok != (e == api.OK) || !ok && e != api.ErrStep || !sameBlame(at, want) {
				t.Fatalf("Check of %s: %d at %v, expected %v at %v, of %s", textOf(p), e, at, ok, want, showDerivation(y))
			}
			switch {
			case ok:
				right++
			case len(at.Path) == 0:
				whole++
			default:
				inner++
			}
		}
	})
	if right < 200 || whole < 1000 || inner < 1000 {
		t.Errorf("too few derivations of a sort: %d right, %d wrong as a whole, %d within", right, whole, inner)
	}
}

// P4.1: so is the place of Step, for any types in any environment.
func TestStepSlow(t *testing.T) {
	right, wrong := 0, 0
	forPrograms(2, 300, true, func(d dice, p api.Program) {
		ds, _, _ := infer.Datas(p)
		x := derived(p)
		for k, b := range bodiesOf(p) {
			in := inBody(p, x, b, k)
			y := copyTyped(x.Bodies[k].Args[0])
			if d.IntN(4) > 0 {
				d.spoilTyped(&y)
			}
			if len(in) > 0 && d.IntN(3) == 0 {
				// What is hidden, or is not there, shows.
				i := d.IntN(len(in))
				in = slices.Delete(slices.Clone(in), i, i+1)
			}
			want, ok := slow{ds}.step(in, b.fun.Body, y)
			path, e := Step(ds, in, b.fun.Body, y)
			if ok != (e == api.OK) || !ok && e != api.ErrStep || !slices.Equal(path, want) {
				text, _ := syntax.PrintExpr(b.fun.Body)
				t.Fatalf("Step of %s in %s: %d at %v, expected %v at %v, of %s", text, showNamed(in), e, path, ok, want, showTyped(y))
			}
			if ok {
				right++
			} else {
				wrong++
			}
		}
	})
	if right < 500 || wrong < 500 {
		t.Errorf("too few: %d right, %d wrong", right, wrong)
	}
}

// inBody returns the whole environment of the body with an index.
func inBody(p api.Program, d api.Derivation, b body, k int) []api.Named {
	env := outside(p, d, b)
	if b.kind == api.DFuns {
		env = append(env, sole(b.fun.Arg, d.Bodies[k].Type.Args[0]))
	}
	return env
}
