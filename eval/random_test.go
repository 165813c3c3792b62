package eval

import (
	"math/rand/v2"
	"slices"
	"strconv"
	"strings"

	"restitch/api"
)

// dice make random things.
type dice struct{ *rand.Rand }

func newDice(seed uint64) dice { return dice{rand.New(rand.NewPCG(seed, 6))} }

func pick[T any](d dice, l []T) T { return l[d.IntN(len(l))] }

// value makes a valid value of few constructors, so that two are often the same.
func (d dice) value(deep int) api.Value {
	switch n := d.IntN(6); {
	case n < 2:
		return num(pick(d, []int{0, 1, -1, 2, 1 << 40}))
	case n == 2 || deep == 0:
		return con(pick(d, []string{"Nil", "A", "AB", "A'1"}))
	case n == 3:
		v := pair()
		for range 2 + d.IntN(3) {
			v.Args = append(v.Args, d.value(deep-1))
		}
		return v
	}
	v := con(pick(d, []string{"Cons", "A", "AB"}))
	for range 1 + d.IntN(3) {
		v.Args = append(v.Args, d.value(deep-1))
	}
	return v
}

// pat makes a pattern, in which a variable may stand twice.
func (d dice) pat(deep int) api.Pat {
	switch n := d.IntN(6); {
	case n == 0:
		return api.Pat{Kind: api.PWild}
	case n < 4 || deep == 0:
		return api.Pat{Kind: api.PVar, Name: pick(d, []string{"x", "y", "z"})}
	}
	p := api.Pat{Kind: api.PCon, Name: pick(d, []string{",", "Nil", "Cons", "True", "A"})}
	fields := map[string]int{",": 2, "Nil": 0, "Cons": 2, "True": 0, "A": 1}[p.Name]
	if p.Name != "," && d.IntN(12) == 0 {
		fields = d.IntN(3)
	}
	for range fields {
		p.Args = append(p.Args, d.pat(deep-1))
	}
	return p
}

// fitting makes a pattern that matches a value, but for one in few.
func (d dice) fitting(v api.Value, deep int) api.Pat {
	if v.Con == "" || deep == 0 || d.IntN(3) == 0 {
		return d.pat(d.IntN(2) * d.IntN(2))
	}
	p := api.Pat{Kind: api.PCon, Name: v.Con}
	for _, a := range v.Args {
		p.Args = append(p.Args, d.fitting(a, deep-1))
	}
	return p
}

// untyped makes an expression that need not have a type. Some names stand for nothing.
func (d dice) untyped(names []string, deep int) api.Expr {
	if deep == 0 || d.IntN(8) == 0 {
		return d.leaf(names)
	}
	sub := func(more ...string) api.Expr {
		return d.untyped(append(slices.Clip(names), append(more, more...)...), deep-1)
	}
	x, f := pick(d, []string{"x", "y", "z"}), pick(d, []string{"f", "g", "x"})
	switch d.IntN(12) {
	case 0, 1:
		return api.Expr{Kind: api.EApp, Args: []api.Expr{{Kind: api.EVar, Name: d.function(names)}, sub()}}
	case 2:
		if d.IntN(3) == 0 {
			return api.Expr{Kind: api.EApp, Args: []api.Expr{sub(), sub()}}
		}
		return d.leaf(names)
	case 3:
		return api.Expr{Kind: api.EApp, Args: []api.Expr{{Kind: api.EFn, Arg: x, Args: []api.Expr{sub(x)}}, sub()}}
	case 4:
		return api.Expr{Kind: api.EFn, Arg: x, Args: []api.Expr{sub(x)}}
	case 5:
		return api.Expr{Kind: api.ELet, Name: x, Args: []api.Expr{sub(), sub(x)}}
	case 6:
		return api.Expr{Kind: api.ERec, Name: f, Arg: x, Args: []api.Expr{sub(x, f), sub(f)}}
	case 7:
		return api.Expr{Kind: api.EOp, Name: pick(d, operators()), Args: []api.Expr{d.number(names), d.number(names)}}
	case 8:
		return api.Expr{Kind: api.ECon, Name: ",", Args: []api.Expr{sub(), sub()}}
	case 9:
		return pick(d, []func() api.Expr{
			func() api.Expr { return api.Expr{Kind: api.ECon, Name: "Cons", Args: []api.Expr{sub(), sub()}} },
			func() api.Expr { return api.Expr{Kind: api.ECon, Name: "A", Args: []api.Expr{sub()}} },
			func() api.Expr { return api.Expr{Kind: api.ECon, Name: "Nil"} },
		})()
	}
	e := api.Expr{Kind: api.ECase, Args: []api.Expr{sub()}}
	for range d.IntN(3) {
		e.Pats = append(e.Pats, d.pat(2))
		e.Args = append(e.Args, sub("x", "y"))
	}
	e.Pats = append(e.Pats, pick(d, []api.Pat{d.pat(1), d.pat(0)}))
	e.Args = append(e.Args, sub(x))
	return e
}

func operators() []string { return []string{"+", "-", "*", "/", "%", "<", "="} }

// function picks a name, in most cases one that is likely to be that of a function.
func (d dice) function(names []string) string {
	for range 6 {
		if name := pick(d, names); strings.Contains(" f g h id ", " "+name+" ") {
			return name
		}
	}
	return pick(d, names)
}

// number makes an expression that is likely to be an integer.
func (d dice) number(names []string) api.Expr {
	if d.IntN(6) == 0 {
		return d.untyped(names, 1)
	}
	if slices.Contains(names, "n") && d.IntN(3) == 0 {
		return api.Expr{Kind: api.EVar, Name: "n"}
	}
	return api.Expr{Kind: api.ENum, Num: pick(d, []int{0, 1, 2, -7, 1 << 62})}
}

func (d dice) leaf(names []string) api.Expr {
	switch d.IntN(8) {
	case 0, 1, 2:
		return api.Expr{Kind: api.ENum, Num: pick(d, []int{0, 1, 2, -7, 1 << 62})}
	case 3:
		return api.Expr{Kind: api.ECon, Name: pick(d, []string{"Nil", "True", "False"})}
	}
	return api.Expr{Kind: api.EVar, Name: pick(d, names)}
}

// untypedProgram makes a program whose names may be declared twice, and its inputs.
func (d dice) untypedProgram() (api.Program, []api.NamedValue) {
	p := program("data L = Nil | Cons Int L; input i : L; input n : Int; fun id x = x;")
	in := []api.NamedValue{{Name: "i", Value: list(num(3), num(4))}, {Name: "n", Value: num(d.IntN(5))}}
	tops := []string{"f", "g", "h", "v", "n", "i"}
	names := []string{"id", "n", "i"}
	for k := range 2 + d.IntN(4) {
		name := pick(d, tops)
		switch d.IntN(5) {
		case 0:
			p.Decls = append(p.Decls, api.Decl{Kind: api.DVal, Name: name, Body: d.untyped(names, 3)})
		case 1:
			p.Decls = append(p.Decls, api.Decl{Kind: api.DOutput, Name: "o" + strconv.Itoa(k), Body: d.untyped(names, 3)})
			continue
		case 2:
			p.Decls = append(p.Decls, api.Decl{Kind: api.DInput, Name: name, Type: typ("Int")})
			in = append(in, api.NamedValue{Name: name, Value: num(k)})
		default:
			p.Decls = append(p.Decls, d.group(name, pick(d, tops), names))
		}
		names = append(names, name)
		if d.IntN(12) == 0 {
			names = append(names, pick(d, tops))
		}
	}
	p.Decls = append(p.Decls, api.Decl{Kind: api.DOutput, Name: "o", Body: d.untyped(names, 4)})
	return p, in
}

// group makes a group of one function, or two, which see others of the same names.
func (d dice) group(name, other string, names []string) api.Decl {
	inner := append(slices.Clip(names), name, "x", "x", "x")
	g := api.Decl{Kind: api.DFuns, Funs: []api.Fun{{Name: name, Arg: "x", Body: d.untyped(inner, 3)}}}
	if d.IntN(2) == 0 {
		g.Funs = append(g.Funs, api.Fun{Name: other, Arg: "y", Body: d.untyped(append(inner, other, "y", "y"), 3)})
	}
	return g
}
