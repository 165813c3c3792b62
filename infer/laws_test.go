package infer

import (
	"maps"
	"math/rand/v2"
	"reflect"
	"slices"
	"strconv"
	"testing"

	"restitch/api"
	"restitch/syntax"
)

// library is what random programs begin with.
const library = "data List 'a = Nil | Cons 'a (List 'a); data Ints = End | Item Int Ints; data Op = O (Int -> Int); input i : Ints; " +
	"fun id x = x; fun fst p = case p of (x, y) => x end; fun len l = case l of Nil => 0 | Cons _ t => 1 + len t end; fun app f = fn x => f x; "

// named is a variable with its type.
type named struct {
	name string
	t    api.Type
}

// exprMaker makes random expressions that have types; all their variables have different names.
type exprMaker struct {
	*rand.Rand
	names *int
}

func newExprMaker(seed uint64) exprMaker {
	return exprMaker{rand.New(rand.NewPCG(seed, 7)), new(int)}
}

func (m exprMaker) name() string {
	*m.names++
	return "v" + strconv.Itoa(*m.names)
}

func (m exprMaker) typ(deep int) api.Type {
	simple := []string{"Int", "Int", "Bool", "Ints", "Op"}
	if deep == 0 || m.IntN(2) == 0 {
		return api.Type{Name: simple[m.IntN(len(simple))]}
	}
	switch m.IntN(3) {
	case 0:
		return to(m.typ(deep-1), m.typ(deep-1))
	case 1:
		return api.Type{Name: ",", Args: []api.Type{m.typ(deep - 1), m.typ(deep - 1)}}
	}
	return api.Type{Name: "List", Args: []api.Type{m.typ(deep - 1)}}
}

func num(n int) api.Expr               { return api.Expr{Kind: api.ENum, Num: n} }
func ref(name string) api.Expr         { return api.Expr{Kind: api.EVar, Name: name} }
func call(f, x api.Expr) api.Expr      { return api.Expr{Kind: api.EApp, Args: []api.Expr{f, x}} }
func fn(x string, b api.Expr) api.Expr { return api.Expr{Kind: api.EFn, Arg: x, Args: []api.Expr{b}} }
func made(name string, l ...api.Expr) api.Expr {
	return api.Expr{Kind: api.ECon, Name: name, Args: l}
}
func bound(name string) api.Pat { return api.Pat{Kind: api.PVar, Name: name} }
func let(x string, e, b api.Expr) api.Expr {
	return api.Expr{Kind: api.ELet, Name: x, Args: []api.Expr{e, b}}
}

// expr makes an expression of a type.
func (m exprMaker) expr(t api.Type, env []named, deep int) api.Expr {
	env = slices.Clip(env)
	var fit []api.Expr
	for _, n := range env {
		if reflect.DeepEqual(n.t, t) {
			fit = append(fit, ref(n.name))
		}
	}
	if len(fit) > 0 && m.IntN(3) > 0 {
		return fit[m.IntN(len(fit))]
	}
	if deep <= 0 || m.IntN(2) == 0 {
		return m.value(t, env, deep)
	}
	x, other := m.name(), m.typ(1)
	inner := append(env, named{x, other})
	switch m.IntN(8) {
	case 0:
		return let(x, m.expr(other, env, deep-1), m.expr(t, inner, deep-1))
	case 1:
		return call(fn(x, m.expr(t, inner, deep-1)), m.expr(other, env, deep-1))
	case 2:
		return call(ref("id"), m.expr(t, env, deep-1))
	case 3:
		return call(ref("fst"), made(",", m.expr(t, env, deep-1), m.expr(other, env, deep-1)))
	case 4:
		return call(call(ref("app"), m.expr(to(other, t), env, deep-1)), m.expr(other, env, deep-1))
	case 5:
		yes, no := api.Pat{Kind: api.PCon, Name: "True"}, api.Pat{Kind: api.PWild}
		boolean := m.expr(api.Type{Name: "Bool"}, env, deep-1)
		return api.Expr{Kind: api.ECase, Pats: []api.Pat{yes, no}, Args: []api.Expr{boolean, m.expr(t, env, deep-1), m.expr(t, env, deep-1)}}
	case 6:
		list := api.Type{Name: "List", Args: []api.Type{other}}
		pats := []api.Pat{{Kind: api.PCon, Name: "Cons", Args: []api.Pat{bound(x), {Kind: api.PWild}}}, bound(m.name())}
		return api.Expr{Kind: api.ECase, Pats: pats, Args: []api.Expr{m.expr(list, env, deep-1), m.expr(t, inner, deep-1), m.expr(t, env, deep-1)}}
	}
	f := m.name()
	rest := append(env, named{f, to(other, t)})
	return api.Expr{Kind: api.ERec, Name: f, Arg: x, Args: []api.Expr{m.expr(t, append(rest, named{x, other}), deep-1), m.expr(t, rest, deep-1)}}
}

// value makes an expression by what a type is.
func (m exprMaker) value(t api.Type, env []named, deep int) api.Expr {
	of := func(t api.Type) api.Expr { return m.expr(t, env, deep-1) }
	switch t.Name {
	case "Int":
		if deep > 0 && m.IntN(2) == 0 {
			return api.Expr{Kind: api.EOp, Name: "+", Args: []api.Expr{of(t), of(t)}}
		}
		return num(m.IntN(10))
	case "Bool":
		if deep > 0 && m.IntN(2) == 0 {
			return api.Expr{Kind: api.EOp, Name: "<", Args: []api.Expr{of(theInt()), of(theInt())}}
		}
		return made([]string{"True", "False"}[m.IntN(2)])
	case "Ints":
		if deep > 0 {
			return made("Item", of(theInt()), of(t))
		}
		return made("End")
	case "Op":
		return made("O", of(to(theInt(), theInt())))
	case "->":
		x := m.name()
		return fn(x, m.expr(t.Args[1], append(slices.Clip(env), named{x, t.Args[0]}), deep-1))
	case ",":
		return made(",", of(t.Args[0]), of(t.Args[1]))
	}
	if deep > 0 {
		return made("Cons", of(t.Args[0]), of(t))
	}
	return made("Nil")
}

// program makes a program that has types; its outputs may have arrows.
func (m exprMaker) program() api.Program {
	p := program(library)
	env := []named{}
	for range 1 + m.IntN(2) {
		var group []api.Fun
		from, into := m.typ(1), m.typ(1)
		f, g, x, y := m.name(), m.name(), m.name(), m.name()
		inner := []named{{f, to(from, into)}, {g, to(into, from)}}
		group = append(group, api.Fun{Name: f, Arg: x, Body: m.expr(into, append(slices.Clip(inner), named{x, from}), 3)})
		group = append(group, api.Fun{Name: g, Arg: y, Body: m.expr(from, append(slices.Clip(inner), named{y, into}), 3)})
		p.Decls = append(p.Decls, api.Decl{Kind: api.DFuns, Funs: group})
	}
	for k := range 3 {
		t := m.typ(2)
		d := api.Decl{Kind: api.DVal, Name: m.name(), Body: m.expr(t, append(slices.Clip(env), named{"i", api.Type{Name: "Ints"}}), 4)}
		if k == 2 {
			d.Kind = api.DOutput
		}
		env = append(env, named{d.Name, t})
		p.Decls = append(p.Decls, d)
	}
	return p
}

// parts appends pointers to the expressions within one.
func parts(list []*api.Expr, e *api.Expr) []*api.Expr {
	list = append(list, e)
	for i := range e.Args {
		list = parts(list, &e.Args[i])
	}
	return list
}

func partsOf(p api.Program) (list []*api.Expr) {
	for i := range p.Decls {
		d := &p.Decls[i]
		for j := range d.Funs {
			list = parts(list, &d.Funs[j].Body)
		}
		if d.Kind == api.DVal || d.Kind == api.DOutput {
			list = parts(list, &d.Body)
		}
	}
	return list
}

func copyExpr(e api.Expr) api.Expr {
	e.Args = slices.Clone(e.Args)
	for i := range e.Args {
		e.Args[i] = copyExpr(e.Args[i])
	}
	return e
}

func copyProgram(p api.Program) api.Program {
	text, _ := syntax.Print(p)
	return program(text)
}

// spoil puts an expression in the place of another one.
func (m exprMaker) spoil(p api.Program) {
	list := partsOf(p)
	*list[m.IntN(len(list))] = copyExpr(*list[m.IntN(len(list))])
}

// forPrograms looks at random programs; half of them are spoiled.
func forPrograms(n int, look func(m exprMaker, p api.Program)) {
	m := newExprMaker(1)
	for i := range n {
		p := m.program()
		if i%2 == 1 {
			m.spoil(p)
		}
		look(m, p)
	}
}

// P3.7: the types, and the places of errors, are those of a slow reading of the chapter.
func TestInferSlow(t *testing.T) {
	count := map[api.Errno]int{}
	forPrograms(600, func(_ exprMaker, p api.Program) {
		at, e := Static(p)
		l, at2, f := Infer(p)
		count[f]++
		if e != api.OK {
			if e != f || !sameBlame(at, at2) {
				t.Fatalf("Static: %d at %v, Infer: %d at %v", e, at, f, at2)
			}
			return
		}
		want, at3, g := slowInfer(p)
		if f != g || !sameBlame(at2, at3) || f == api.OK && !reflect.DeepEqual(l, want) {
			text, _ := syntax.Print(p)
			t.Fatalf("Infer of %s: %s, %d at %v, expected %s, %d at %v", text, showNamed(l), f, at2, showNamed(want), g, at3)
		}
	})
	if count[api.OK] < 150 || count[api.ErrType] < 50 || count[api.ErrName] < 15 || count[api.ErrOutput] < 15 {
		t.Errorf("too few programs of a sort: %v", count)
	}
}

// renamer gives other names to bound variables.
type renamer struct{ count int }

func (r *renamer) next() string {
	r.count++
	return "w" + strconv.Itoa(r.count)
}

func (r *renamer) expr(e api.Expr, of map[string]string) api.Expr {
	result := api.Expr{Kind: e.Kind, Num: e.Num, Name: e.Name}
	in := func(i int, of map[string]string) { result.Args = append(result.Args, r.expr(e.Args[i], of)) }
	inner := maps.Clone(of)
	switch e.Kind {
	case api.EVar:
		if name, ok := of[e.Name]; ok {
			result.Name = name
		}
	case api.EFn:
		result.Arg = r.next()
		inner[e.Arg] = result.Arg
		in(0, inner)
	case api.ELet:
		result.Name = r.next()
		inner[e.Name] = result.Name
		in(0, of)
		in(1, inner)
	case api.ERec:
		result.Name, result.Arg = r.next(), r.next()
		inner[e.Name] = result.Name
		body := maps.Clone(inner)
		body[e.Arg] = result.Arg
		in(0, body)
		in(1, inner)
	case api.ECase:
		in(0, of)
		for i, p := range e.Pats {
			arm := maps.Clone(of)
			result.Pats = append(result.Pats, r.pat(p, arm))
			in(i+1, arm)
		}
	default:
		for i := range e.Args {
			in(i, of)
		}
	}
	return result
}

func (r *renamer) pat(p api.Pat, of map[string]string) api.Pat {
	result := api.Pat{Kind: p.Kind, Name: p.Name}
	if p.Kind == api.PVar {
		of[p.Name] = r.next()
		result.Name = of[p.Name]
	}
	for _, a := range p.Args {
		result.Args = append(result.Args, r.pat(a, of))
	}
	return result
}

// P3.11: other names of bound variables change nothing, nor does a declaration after all others.
func TestBoundNames(t *testing.T) {
	forPrograms(800, func(m exprMaker, p api.Program) {
		l, at, e := Infer(p)
		other := copyProgram(p)
		r := &renamer{}
		for i := range other.Decls {
			d := &other.Decls[i]
			for j, f := range d.Funs {
				arg := r.next()
				d.Funs[j] = api.Fun{Name: f.Name, Arg: arg, Body: r.expr(f.Body, map[string]string{f.Arg: arg})}
			}
			d.Body = r.expr(d.Body, map[string]string{})
		}
		k, at2, f := Infer(other)
		if e != f || !sameBlame(at, at2) || !reflect.DeepEqual(k, l) {
			text, _ := syntax.Print(p)
			t.Fatalf("Infer of %s: %s, %d at %v; with other names: %s, %d at %v", text, showNamed(l), e, at, showNamed(k), f, at2)
		}
		if e != api.OK {
			return
		}
		more := p.Decls[m.IntN(len(p.Decls))].Kind
		last := api.Decl{Kind: api.DVal, Name: "last", Body: m.expr(m.typ(1), nil, 2)}
		if more == api.DFuns {
			last = program("fun last x = last (fn y => y) and more x = x 1;").Decls[0]
		}
		longer := api.Program{Decls: append(slices.Clip(p.Decls), last)}
		k, _, e = Infer(longer)
		if e != api.OK || !reflect.DeepEqual(k[:len(l)], l) {
			t.Fatalf("a declaration more: %s, %d; before: %s", showNamed(k), e, showNamed(l))
		}
	})
}

// uses returns how often a variable stands in an expression. (The names of random expressions are all different.)
func uses(e api.Expr, name string) int {
	n := 0
	for _, part := range parts(nil, &e) {
		if part.Kind == api.EVar && part.Name == name {
			n++
		}
	}
	return n
}

// P3.12: what a let stands for may be put in its place.
func TestSubject(t *testing.T) {
	done, better := 0, 0
	check := func(p api.Program) {
		before, _, e := Infer(p)
		if e != api.OK {
			return
		}
		for k, part := range partsOf(p) {
			if part.Kind != api.ELet || uses(part.Args[1], part.Name) == 0 {
				continue
			}
			other := copyProgram(p)
			l := partsOf(other)[k]
			name, e := l.Name, l.Args[0]
			*l = l.Args[1]
			for _, use := range parts(nil, l) {
				if use.Kind == api.EVar && use.Name == name {
					*use = copyExpr(e)
				}
			}
			if syntax.Check(other) != api.OK {
				continue
			}
			done++
			after, at, f := Infer(other)
			if f != api.OK {
				text, _ := syntax.Print(other)
				t.Fatalf("Infer of %s: %d at %v", text, f, at)
			}
			for i := range before {
				if !General(after[i].Scheme, before[i].Scheme) {
					t.Fatalf("%s became %s", showNamed(before), showNamed(after))
				}
				if !General(before[i].Scheme, after[i].Scheme) {
					better++
				}
			}
		}
	}
	forPrograms(800, func(_ exprMaker, p api.Program) { check(p) })
	check(program("fun f x = let g = fn y => y in (g, g);"))
	check(program("fun f x = fn y => let g = (x, fn z => z) in case (g, g) of ((_, h), (_, k)) => (h x, k y) end;"))
	if done < 100 || better < 2 {
		t.Errorf("%d programs, of which %d became more general", done, better)
	}
}
