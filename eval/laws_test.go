package eval

import (
	"maps"
	"slices"
	"strconv"
	"testing"

	"restitch/api"
	"restitch/infer"
	"restitch/syntax"
)

// sorts are functions with many cases and closures; they are what typed programs begin with.
const sorts = "data List 'a = Nil | Cons 'a (List 'a); data Ints = End | Item Int Ints; data Tree 'a = Leaf | Node (Tree 'a) 'a (Tree 'a); " +
	"input n : Int; input l : Ints; " +
	"fun id x = x; fun app f = fn x => f x; fun fst p = case p of (a, b) => a end; fun list i = case i of End => Nil | Item h t => Cons h (list t) end; " +
	"fun map f = let fun go l = case l of Nil => Nil | Cons h t => Cons (f h) (go t) end in go; " +
	"fun foldr f = fn z => let fun go l = case l of Nil => z | Cons h t => f h (go t) end in go; " +
	"fun gcd a = fn b => if b = 0 then abs a else gcd b (a % b) and abs n = if n < 0 then 0 - n else n; " +
	"fun split l = case l of Cons x (Cons y t) => case split t of (a, b) => (Cons x a, Cons y b) end | _ => (l, Nil) end; " +
	"fun merge a = fn b => case (a, b) of (Nil, _) => b | (_, Nil) => a | (Cons x r, Cons y s) => if y < x then Cons y (merge a s) else Cons x (merge r b) end; " +
	"fun msort l = case l of Cons x (Cons y t) => case split l of (a, b) => merge (msort a) (msort b) end | _ => l end; " +
	"fun tinsert x = fn t => case t of Leaf => Node Leaf x Leaf | Node l y r => if x < y then Node (tinsert x l) y r else if y < x then Node l y (tinsert x r) else t end; "

func sortInputs(n int, l ...int) []api.NamedValue {
	v := con("End")
	for _, k := range slices.Backward(l) {
		v = con("Item", num(k), v)
	}
	return []api.NamedValue{{Name: "n", Value: num(n)}, {Name: "l", Value: v}}
}

// P6.7: programs as one writes them.
func TestRunSorts(t *testing.T) {
	in := sortInputs(12, 5, -3, 9, 0, 5)
	for body, want := range map[string]string{
		"gcd 12 18":            "6",
		"gcd (0 - n) 8":        "4",
		"msort (list l)":       "Cons ~3 (Cons 0 (Cons 5 (Cons 5 (Cons 9 Nil))))",
		"map (gcd n) (list l)": "Cons 1 (Cons 3 (Cons 3 (Cons 12 (Cons 1 Nil))))",
		"foldr (fn a => fn b => a * 2 + b) n (list l)":  "44",
		"foldr tinsert Leaf (list l)":                   "Node (Node (Node Leaf ~3 Leaf) 0 Leaf) 5 (Node Leaf 9 Leaf)",
		"(app (map id) (list l), fst (split (list l)))": "(Cons 5 (Cons ~3 (Cons 9 (Cons 0 (Cons 5 Nil)))), Cons 5 (Cons 9 (Cons 5 Nil)))",
	} {
		o, e := Run(program(sorts+"output o = "+body+";"), in, 5000)
		errs(t, body, e, api.OK)
		if e == api.OK && !same(o.Outputs[0].Value, val(want)) {
			t.Errorf("%s = %s, expected %s", body, show(o.Outputs[0].Value), want)
		}
	}
	if o, _ := Run(program(sorts+"output o = gcd 12 18;"), in, 5000); o.Steps != 54 {
		t.Errorf("gcd 12 18 takes %d steps, expected 54", o.Steps)
	}
}

// variable is a name in force, with its type.
type variable struct {
	name string
	t    api.Type
}

// typer makes expressions that have types; all names that it binds are different.
type typer struct {
	dice
	names int
}

func (m *typer) name() string {
	m.names++
	return "v" + strconv.Itoa(m.names)
}

func (m *typer) typ(deep int) api.Type {
	if deep == 0 || m.IntN(2) == 0 {
		return typ(pick(m.dice, []string{"Int", "Int", "Bool", "Ints", "List Int", "Int -> Int"}))
	}
	a, b := m.typ(deep-1), m.typ(deep-1)
	return pick(m.dice, []api.Type{{Name: "List", Args: []api.Type{a}}, {Name: "Tree", Args: []api.Type{a}}, {Name: ",", Args: []api.Type{a, b}}, arrow(a, b)})
}

func arrow(a, b api.Type) api.Type { return api.Type{Name: "->", Args: []api.Type{a, b}} }

func ref(name string) api.Expr         { return api.Expr{Kind: api.EVar, Name: name} }
func call(f, x api.Expr) api.Expr      { return api.Expr{Kind: api.EApp, Args: []api.Expr{f, x}} }
func fn(x string, b api.Expr) api.Expr { return api.Expr{Kind: api.EFn, Arg: x, Args: []api.Expr{b}} }

func built(name string, l ...api.Expr) api.Expr {
	return api.Expr{Kind: api.ECon, Name: name, Args: l}
}

// expr makes an expression of a type.
func (m *typer) expr(t api.Type, env []variable, deep int) api.Expr {
	env = slices.Clip(env)
	if m.IntN(3) > 0 {
		var fit []string
		for _, v := range env {
			if same(v.t, t) {
				fit = append(fit, v.name)
			}
		}
		if len(fit) > 0 {
			return ref(pick(m.dice, fit))
		}
	}
	if deep <= 0 || m.IntN(2) == 0 {
		return m.intro(t, env, deep)
	}
	return m.use(t, env, deep)
}

// use makes an expression that computes one of a type from others.
func (m *typer) use(t api.Type, env []variable, deep int) api.Expr {
	x, f, other := m.name(), m.name(), m.typ(1)
	of := func(t api.Type, more ...variable) api.Expr { return m.expr(t, append(env, more...), deep-1) }
	inner := variable{x, other}
	switch m.IntN(8) {
	case 0:
		return api.Expr{Kind: api.ELet, Name: x, Args: []api.Expr{of(other), of(t, inner)}}
	case 1:
		return call(fn(x, of(t, inner)), of(other))
	case 2:
		return call(ref("id"), of(t))
	case 3:
		return call(call(ref("app"), of(arrow(other, t))), of(other))
	case 4:
		return call(ref("fst"), built(",", of(t), of(other)))
	case 5:
		return api.Expr{Kind: api.ECase, Pats: []api.Pat{pat("True"), pat("False")}, Args: []api.Expr{of(typ("Bool")), of(t), of(t)}}
	case 6:
		y := m.name()
		list := api.Type{Name: "List", Args: []api.Type{other}}
		pats := []api.Pat{pat("Cons " + x + " " + y), pat("_")}
		arms := 1 + min(1, m.IntN(8))
		return api.Expr{Kind: api.ECase, Pats: pats[:arms], Args: []api.Expr{of(list), of(t, inner, variable{y, list}), of(t)}[:arms+1]}
	}
	g := variable{f, arrow(other, t)}
	return api.Expr{Kind: api.ERec, Name: f, Arg: x, Args: []api.Expr{of(t, g, inner), of(t, g)}}
}

// intro makes an expression by what a type is.
func (m *typer) intro(t api.Type, env []variable, deep int) api.Expr {
	of := func(t api.Type) api.Expr { return m.expr(t, env, deep-1) }
	more := deep > 0 && m.IntN(2) == 0
	switch t.Name {
	case "Int":
		if more {
			return api.Expr{Kind: api.EOp, Name: pick(m.dice, operators()[:5]), Args: []api.Expr{of(t), of(t)}}
		}
		return api.Expr{Kind: api.ENum, Num: m.IntN(10)}
	case "Bool":
		if more {
			return api.Expr{Kind: api.EOp, Name: pick(m.dice, operators()[5:]), Args: []api.Expr{of(typ("Int")), of(typ("Int"))}}
		}
		return built(pick(m.dice, []string{"True", "False"}))
	case "Ints":
		if more {
			return built("Item", of(typ("Int")), of(t))
		}
		return built("End")
	case "List":
		if more {
			return built("Cons", of(t.Args[0]), of(t))
		}
		return built("Nil")
	case "Tree":
		if more {
			return built("Node", of(t), of(t.Args[0]), of(t))
		}
		return built("Leaf")
	case ",":
		return built(",", of(t.Args[0]), of(t.Args[1]))
	}
	x := m.name()
	return fn(x, m.expr(t.Args[1], append(env, variable{x, t.Args[0]}), deep-1))
}

// program makes a program that has types.
func (m *typer) program() api.Program {
	p := program(sorts)
	ints := typ("List Int")
	funs := []variable{{"msort", arrow(ints, ints)}, {"list", arrow(typ("Ints"), ints)}, {"gcd", arrow(typ("Int"), typ("Int -> Int"))}, {"abs", typ("Int -> Int")}}
	all := append(slices.Clip(funs), variable{"n", typ("Int")}, variable{"n", typ("Int")}, variable{"l", typ("Ints")})
	for range 1 + m.IntN(2) {
		from, into := m.typ(1), m.typ(1)
		f, g, x, y := m.name(), m.name(), m.name(), m.name()
		funs, all = append(funs, variable{f, arrow(from, into)}, variable{g, arrow(into, from)}), append(all, variable{f, arrow(from, into)})
		p.Decls = append(p.Decls, api.Decl{Kind: api.DFuns, Funs: []api.Fun{
			{Name: f, Arg: x, Body: m.expr(into, append(slices.Clip(funs), variable{x, from}), 3)},
			{Name: g, Arg: y, Body: m.expr(from, append(slices.Clip(funs), variable{y, into}), 3)},
		}})
	}
	for k := range 3 {
		t := m.typ(2)
		d := api.Decl{Kind: api.DVal, Name: m.name()}
		if k > 0 {
			d = api.Decl{Kind: api.DOutput, Name: "o" + strconv.Itoa(k)}
			t = pick(m.dice, []api.Type{typ("Int"), typ("Bool"), typ("List (Int, Bool)"), typ("(Ints, List Int)"), typ("Tree Int")})
		}
		d.Body = m.expr(t, all, 4)
		all = append(all, variable{d.Name, t})
		p.Decls = append(p.Decls, d)
		if k > 0 {
			all = all[:len(all)-1]
		}
	}
	return p
}

// forTyped looks at random programs that have types, with inputs.
func forTyped(t *testing.T, seed uint64, n int, look func(d dice, p api.Program, in []api.NamedValue)) {
	t.Helper()
	m := &typer{dice: newDice(seed)}
	done := 0
	for range n {
		m.names = 0
		p := m.program()
		if _, _, e := infer.Infer(p); e != api.OK {
			continue
		}
		done++
		look(m.dice, p, sortInputs(m.IntN(20)-10, []int{3, -1, 4, 1, 5}[:m.IntN(6)]...))
	}
	if done < n/2 {
		t.Errorf("just %d of %d programs have types", done, n)
	}
}

// P6.8: a program that has types never is stuck, and its outputs have their types.
func TestSound(t *testing.T) {
	count := map[api.Errno]int{}
	forTyped(t, 8, 1500, func(d dice, p api.Program, in []api.NamedValue) {
		schemes, _, _ := infer.Infer(p)
		ds, _, _ := infer.Datas(p)
		fuel := pick(d, []int{2000, 2000, 2000, 50})
		o, e := Run(p, in, fuel)
		count[e]++
		if e != api.OK && e != api.ErrFuel && e != api.ErrMatch && e != api.ErrLarge {
			text, _ := syntax.Print(p)
			t.Fatalf("Run of %s with %s: error %d", text, showAll(in), e)
		}
		for _, v := range o.Outputs {
			i := slices.IndexFunc(schemes, func(n api.Named) bool { return n.Name == v.Name })
			if s := schemes[i].Scheme; len(s.Vars) > 0 || !Has(ds, s.Type, v.Value) {
				t.Fatalf("the output %s = %s has not the type %v", v.Name, show(v.Value), s.Type)
			}
		}
		if want, f := slowRun(p, in, fuel); e != f || !same(o, want) {
			text, _ := syntax.Print(p)
			t.Fatalf("Run of %s: %s, error %d; expected %s, error %d", text, showOutcome(o), e, showOutcome(want), f)
		}
	})
	if count[api.OK] < 800 || count[api.ErrFuel] < 30 || count[api.ErrMatch] < 50 {
		t.Errorf("the errors are %v", count)
	}
}

// checkFuel is P6.9 for a program: with as much fuel as it needs, or more, it returns the same; with less ErrFuel.
func checkFuel(t *testing.T, p api.Program, in []api.NamedValue) api.Errno {
	t.Helper()
	const most = 3000
	o, e := Run(p, in, most)
	if e == api.ErrFuel {
		return e
	}
	need := o.Steps
	if e != api.OK {
		for need = 0; need < most; need++ {
			if _, f := Run(p, in, need); f != api.ErrFuel {
				break
			}
		}
	}
	for _, fuel := range []int{need, need + 1, (need + most) / 2, most + 1, api.MaxFuel} {
		if other, f := Run(p, in, fuel); f != e || !same(other, o) {
			t.Fatalf("%s, error %d; with the fuel %d %s, error %d", showOutcome(o), e, fuel, showOutcome(other), f)
		}
	}
	for _, fuel := range []int{0, need / 2, need - 1} {
		if other, f := Run(p, in, fuel); fuel >= 0 && fuel < need && (f != api.ErrFuel || !same(other, api.Outcome{})) {
			t.Fatalf("%s, error %d; with the fuel %d %s, error %d", showOutcome(o), e, fuel, showOutcome(other), f)
		}
	}
	return e
}

// P6.9: what fuel does.
func TestFuel(t *testing.T) {
	count := map[api.Errno]int{}
	forTyped(t, 9, 500, func(_ dice, p api.Program, in []api.NamedValue) { count[checkFuel(t, p, in)]++ })
	d := newDice(99)
	for range 2000 {
		if p, in := d.untypedProgram(); syntax.Check(p) == api.OK {
			count[checkFuel(t, p, in)]++
		}
	}
	if count[api.OK] < 500 || count[api.ErrStuck] < 200 || count[api.ErrMatch] < 50 {
		t.Errorf("the errors are %v", count)
	}
}

// renamer gives other names to what a program binds.
type renamer struct{ count int }

func (r *renamer) next() string {
	r.count++
	return "w" + strconv.Itoa(r.count)
}

// binding returns names in force in which another one has a new name.
func (r *renamer) binding(of map[string]string, name string) (map[string]string, string) {
	of = maps.Clone(of)
	of[name] = r.next()
	return of, of[name]
}

func (r *renamer) expr(e api.Expr, of map[string]string) api.Expr {
	result := api.Expr{Kind: e.Kind, Num: e.Num, Name: e.Name}
	scopes := make([]map[string]string, len(e.Args))
	for i := range scopes {
		scopes[i] = of
	}
	switch e.Kind {
	case api.EVar:
		if name, ok := of[e.Name]; ok {
			result.Name = name
		}
	case api.EFn:
		scopes[0], result.Arg = r.binding(of, e.Arg)
	case api.ELet:
		scopes[1], result.Name = r.binding(of, e.Name)
	case api.ERec:
		scopes[1], result.Name = r.binding(of, e.Name)
		scopes[0], result.Arg = r.binding(scopes[1], e.Arg)
	case api.ECase:
		for i, p := range e.Pats {
			scopes[i+1] = maps.Clone(of)
			result.Pats = append(result.Pats, r.pat(p, scopes[i+1]))
		}
	}
	for i, a := range e.Args {
		result.Args = append(result.Args, r.expr(a, scopes[i]))
	}
	return result
}

func (r *renamer) pat(p api.Pat, of map[string]string) api.Pat {
	result := api.Pat{Kind: p.Kind, Name: p.Name}
	if p.Kind == api.PVar {
		result.Name = r.next()
		of[p.Name] = result.Name
	}
	for _, a := range p.Args {
		result.Args = append(result.Args, r.pat(a, of))
	}
	return result
}

// program renames all but inputs and outputs.
func (r *renamer) program(p api.Program) (result api.Program) {
	funs, all := map[string]string{}, map[string]string{}
	for _, d := range p.Decls {
		switch d.Kind {
		case api.DInput:
			all = maps.Clone(all)
			delete(all, d.Name)
		case api.DFuns:
			d.Funs, funs, all = r.group(d.Funs, funs, all)
		case api.DVal:
			d.Body = r.expr(d.Body, all)
			all, d.Name = r.binding(all, d.Name)
		case api.DOutput:
			d.Body = r.expr(d.Body, all)
		}
		result.Decls = append(result.Decls, d)
	}
	return result
}

func (r *renamer) group(list []api.Fun, funs, all map[string]string) ([]api.Fun, map[string]string, map[string]string) {
	all = maps.Clone(all)
	list = slices.Clone(list)
	for i, f := range list {
		funs, list[i].Name = r.binding(funs, f.Name)
		all[f.Name] = list[i].Name
	}
	for i, f := range list {
		inner, arg := r.binding(funs, f.Arg)
		list[i].Arg, list[i].Body = arg, r.expr(f.Body, inner)
	}
	return list, funs, all
}

// idle adds a function that nobody calls at a place of a program.
func (d dice) idle(p api.Program) api.Program {
	at := d.IntN(len(p.Decls) + 1)
	text := pick(d, []string{"fun idle x = idle x;", "fun idle x = x 1 2 and idler y = unknown;", "fun idle x = case x of Nil => 1 end;"})
	return api.Program{Decls: slices.Concat(p.Decls[:at], program(text).Decls, p.Decls[at:])}
}

// checkNames is P6.12 for a program.
func checkNames(t *testing.T, d dice, p api.Program, in []api.NamedValue) api.Errno {
	t.Helper()
	fuel := pick(d, []int{2000, 2000, 20})
	o, e := Run(p, in, fuel)
	for _, q := range []api.Program{(&renamer{}).program(p), d.idle(p)} {
		if syntax.Check(q) != api.OK {
			continue
		}
		if other, f := Run(q, in, fuel); e != f || !same(o, other) {
			before, _ := syntax.Print(p)
			after, _ := syntax.Print(q)
			t.Fatalf("%s: %s, error %d; but %s: %s, error %d", before, showOutcome(o), e, after, showOutcome(other), f)
		}
	}
	return e
}

// P6.12: names, and functions that are not called, change nothing.
func TestNames(t *testing.T) {
	count := map[api.Errno]int{}
	forTyped(t, 12, 600, func(d dice, p api.Program, in []api.NamedValue) { count[checkNames(t, d, p, in)]++ })
	d := newDice(120)
	for range 6000 {
		if p, in := d.untypedProgram(); syntax.Check(p) == api.OK {
			count[checkNames(t, d, p, in)]++
		}
	}
	if count[api.OK] < 1000 || count[api.ErrStuck] < 500 || count[api.ErrMatch] < 200 || count[api.ErrFuel] < 200 {
		t.Errorf("the errors are %v", count)
	}
	renamed := (&renamer{}).program(program("fun f x = f x; val v = f; output o = case v of g => f g end;"))
	text, _ := syntax.Print(renamed)
	texts(t, "renamed", text, "fun w1 w2 = w1 w2 ; val w3 = w1 ; output o = case w3 of w4 => w1 w4 end ;")
}
