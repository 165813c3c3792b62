package derive

import (
	"slices"
	"strconv"
	"testing"

	"restitch/api"
	"restitch/infer"
)

// P4.2: what Derive finds is right, has the schemes of infer.Infer, and is what a slow way finds.
func TestFound(t *testing.T) {
	forPrograms(3, 400, true, func(_ dice, p api.Program) {
		schemes, _, _ := infer.Infer(p)
		d, e := Derive(p)
		if at, f := Check(p, d); e != api.OK || f != api.OK || showNamed(d.Schemes) != showNamed(schemes) {
			t.Fatalf("Derive of %s: %d, Check: %d at %v, of %s", textOf(p), e, f, at, showDerivation(d))
		}
		want := slowBodies(p, schemes)
		bodies := bodiesOf(p)
		var r renaming
		for k, x := range d.Bodies {
			if bodies[k].at.Fun == 0 {
				r = newRenaming()
			}
			if !r.typed(x, want[k], true) {
				t.Fatalf("Derive of %s: body %d is %s, expected %s", textOf(p), k, showTyped(x), showTyped(want[k]))
			}
		}
	})
}

// P4.2: programs that have no types have no derivation, as far as one is tried: those of other programs with the same form.
func TestNotFound(t *testing.T) {
	tried, typed := 0, 0
	forPrograms(4, 300, false, func(d dice, p api.Program) {
		x := derived(p)
		for range 8 {
			q := program(textOf(p))
			decl := &q.Decls[9+d.IntN(len(q.Decls)-8)-1]
			e := &decl.Body
			if decl.Kind == api.DFuns {
				e = &decl.Funs[0].Body
			}
			for len(e.Args) > 0 && d.IntN(4) > 0 {
				e = &e.Args[d.IntN(len(e.Args))]
			}
			if e.Kind != api.EVar {
				continue
			}
			e.Name = pick(d, []string{"id", "x", "y", "fst", "d0", "app"})
			tried++
			_, _, inferred := infer.Infer(q)
			if _, e := Check(q, x); e == api.OK {
				typed++
				if inferred != api.OK {
					t.Fatalf("Check accepts %s of %s, Infer: %d", showDerivation(x), textOf(q), inferred)
				}
			}
			if _, e := Derive(q); e != inferred {
				t.Fatalf("Derive of %s: %d, Infer: %d", textOf(q), e, inferred)
			}
		}
	})
	if tried < 500 || typed < 20 {
		t.Errorf("too few: %d tried, %d accepted", tried, typed)
	}
}

// fixed returns a derivation with a type in the place of a variable of the scheme of a function.
func fixed(p api.Program, d api.Derivation, b body, k, v int, u api.Type) api.Derivation {
	d = copyDerivation(d)
	s, x := &d.Schemes[b.name].Scheme, &d.Bodies[k]
	old := []string{x.Inst[v].Name}
	*x = mapTyped(*x, func(t api.Type) api.Type { return put(t, old, []api.Type{u}) })
	s.Type = put(s.Type, s.Vars[v:v+1], []api.Type{u})
	s.Vars = slices.Delete(s.Vars, v, v+1)
	x.Inst = slices.Delete(x.Inst, v, v+1)
	return d
}

func mapTyped(x api.Typed, of func(api.Type) api.Type) api.Typed {
	result := api.Typed{Type: of(x.Type)}
	for _, t := range x.Inst {
		result.Inst = append(result.Inst, of(t))
	}
	for _, a := range x.Args {
		result.Args = append(result.Args, mapTyped(a, of))
	}
	return result
}

// P4.3: there are derivations with other schemes; these are instances of those that are inferred.
func TestPrincipal(t *testing.T) {
	less := 0
	forPrograms(5, 300, true, func(d dice, p api.Program) {
		schemes, _, _ := infer.Infer(p)
		x := derived(p)
		bodies := bodiesOf(p)
		for k, b := range bodies {
			// Variables may hide the functions of the library, but no other one.
			if b.kind != api.DFuns || b.count > 1 || len(x.Bodies[k].Inst) == 0 || b.fun.Name[0] != 'd' {
				continue
			}
			y := fixed(p, x, b, k, d.IntN(len(x.Bodies[k].Inst)), typ(pick(d, []string{"Int", "List Bool", "Int -> Int"})))
			if used(p, b.fun.Name) {
				// The uses have another number of types now.
				if _, e := Check(p, y); e != api.ErrStep {
					t.Fatalf("Check of %s: %d", showDerivation(y), e)
				}
				continue
			}
			if at, e := Check(p, y); e != api.OK {
				t.Fatalf("Check of %s: %d at %v, of %s", textOf(p), e, at, showDerivation(y))
			}
			less++
			for i, n := range y.Schemes {
				if !infer.General(schemes[i].Scheme, n.Scheme) {
					t.Fatalf("%s is more general than %s", showNamed(y.Schemes[i:i+1]), showNamed(schemes[i:i+1]))
				}
			}
		}
	})
	if less < 200 {
		t.Errorf("just %d derivations", less)
	}
}

// used reports whether a name stands in a body other than its own.
func used(p api.Program, name string) bool {
	for _, b := range bodiesOf(p) {
		if b.fun.Name != name && stands(b.fun.Body, name) {
			return true
		}
	}
	return false
}

func stands(e api.Expr, name string) bool {
	return e.Kind == api.EVar && e.Name == name || slices.ContainsFunc(e.Args, func(a api.Expr) bool { return stands(a, name) })
}

// P4.4: types that follow the rules do so with known types in the place of variables.
func TestSubstitution(t *testing.T) {
	changed := 0
	forPrograms(6, 400, true, func(d dice, p api.Program) {
		ds, _, _ := infer.Datas(p)
		x := derived(p)
		for k, b := range bodiesOf(p) {
			var vars []string
			var types []api.Type
			for i := range 6 {
				vars = append(vars, "'t"+strconv.Itoa(i))
				types = append(types, typ(pick(d, []string{"Int", "'t0", "'t1", "'new", "List 't2", "'x -> Bool", "(Ints, 't3, 't0)"})))
			}
			of := func(t api.Type) api.Type { return put(t, vars, types) }
			env := inBody(p, x, b, k)
			for i := range env {
				// The schemes of the program are closed, and have no such variables.
				env[i].Scheme.Type = of(env[i].Scheme.Type)
			}
			y := mapTyped(x.Bodies[k].Args[0], of)
			if path, e := Step(ds, env, b.fun.Body, y); e != api.OK {
				t.Fatalf("Step of %s: %d at %v", showTyped(y), e, path)
			}
			if showTyped(y) != showTyped(x.Bodies[k].Args[0]) {
				changed++
			}
		}
	})
	if changed < 500 {
		t.Errorf("just %d were changed", changed)
	}
}

// P4.5: types that follow the rules do so with more names in front, and with names that have more general schemes.
func TestWeakening(t *testing.T) {
	general := 0
	forPrograms(7, 400, true, func(d dice, p api.Program) {
		ds, _, _ := infer.Datas(p)
		x := derived(p)
		for k, b := range bodiesOf(p) {
			env := inBody(p, x, b, k)
			front := []api.Named{sole("new", typ("'t0")), sole("x", typ("Bool"))}
			for _, n := range env {
				front = append(front, sole(n.Name, d.goodType()))
			}
			body := x.Bodies[k].Args[0]
			if path, e := Step(ds, append(front, env...), b.fun.Body, body); e != api.OK {
				t.Fatalf("Step of %s with more in front: %d at %v", showTyped(body), e, path)
			}
			if b.kind != api.DFuns {
				continue
			}
			// The Arg gets the scheme of all types: each use says of which one it is.
			last := env[len(env)-1]
			if stands(b.fun.Body, b.fun.Arg) {
				general++
			}
			env[len(env)-1].Scheme = api.Scheme{Vars: []string{"'all"}, Type: api.Type{Name: "'all"}}
			more := useAll(b.fun.Body, body, b.fun.Arg, last.Scheme.Type)
			if path, e := Step(ds, env, b.fun.Body, more); e != api.OK {
				t.Fatalf("Step of %s with a more general scheme: %d at %v", showTyped(more), e, path)
			}
		}
	})
	if general < 200 {
		t.Errorf("just %d", general)
	}
}

func (d dice) goodType() api.Type {
	return typ(pick(d, []string{"Int", "'t0", "List Bool", "'t1 -> Int"}))
}

// useAll says in the uses of a variable that is not hidden of which type it is.
func useAll(e api.Expr, x api.Typed, name string, t api.Type) api.Typed {
	x = copyTyped(x)
	if e.Kind == api.EVar && e.Name == name {
		x.Inst = []api.Type{t}
	}
	for i, a := range e.Args {
		hides := e.Arg == name && i == 0 || e.Name == name && (i == 1 || e.Kind == api.ERec)
		if e.Kind == api.ECase && i > 0 {
			hides = binds(e.Pats[i-1], name)
		}
		if !hides {
			x.Args[i] = useAll(a, x.Args[i], name, t)
		}
	}
	return x
}

func binds(p api.Pat, name string) bool {
	return p.Name == name && p.Kind == api.PVar || slices.ContainsFunc(p.Args, func(a api.Pat) bool { return binds(a, name) })
}

// P4.6: the first declarations, and what Special returns.
func TestFirstAndSpecial(t *testing.T) {
	forPrograms(8, 120, true, func(d dice, p api.Program) {
		ds, _, _ := infer.Datas(p)
		x := derived(p)
		for n := range len(p.Decls) + 1 {
			first, e := First(p, x, n)
			q := api.Program{Decls: p.Decls[:n]}
			if at, f := Check(q, first); e != api.OK || f != api.OK || n == len(p.Decls) && !Same(first, x) {
				t.Fatalf("First of %s of %d: %d, Check: %d at %v", textOf(p), n, e, f, at)
			}
		}
		for k, b := range bodiesOf(p) {
			inst := []api.Type{}
			for range x.Bodies[k].Inst {
				inst = append(inst, typ(pick(d, []string{"Int", "List Bool", "Ints -> (Int, Int)"})))
			}
			checkSpecial(t, ds, p, x, b, k, inst)
		}
	})
}

func checkSpecial(t *testing.T, ds []api.Data, p api.Program, x api.Derivation, b body, k int, inst []api.Type) {
	t.Helper()
	got, e := Special(p, x, k, inst)
	vars := infer.Vars(x.Bodies[k].Type)
	of := func(u api.Type) api.Type {
		u = put(u, vars, inst)
		rest := infer.Vars(u)
		return put(u, rest, slices.Repeat([]api.Type{theInt()}, len(rest)))
	}
	want := mapTyped(x.Bodies[k], of)
	if e != api.OK || showTyped(got) != showTyped(want) {
		t.Fatalf("Special of %s: %d, %s, expected %s", showTyped(x.Bodies[k]), e, showTyped(got), showTyped(want))
	}
	env := inBody(p, x, b, k)
	for i := range env {
		if len(env[i].Scheme.Vars) == 0 {
			env[i].Scheme.Type = of(env[i].Scheme.Type)
		}
	}
	if path, e := Step(ds, env, b.fun.Body, got.Args[0]); e != api.OK {
		t.Fatalf("Step of %s: %d at %v", showTyped(got), e, path)
	}
}
