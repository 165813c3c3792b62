package infer

import (
	"slices"

	"restitch/api"
)

// place is where a program is being looked at.
type place struct{ at api.Blame }

// enter goes to a declaration.
func (p *place) enter(decl int) { p.at = api.Blame{Decl: decl} }

// within goes to an Arg of an expression, and comes back.
func (p *place) within(arg int, look func()) {
	p.at.Path = append(p.at.Path, arg)
	look()
	p.at.Path = p.at.Path[:len(p.at.Path)-1]
}

func (p *place) fail(e api.Errno) { panic(wrong{p.at, e}) }

// meaning is what a name stands for: one of a program has a scheme, a variable of a body a type that is being solved.
type meaning struct {
	scheme api.Scheme
	own    *node
}

// maker is what a constructor makes: its data type, and its fields.
type maker struct {
	data api.Data
	con  api.Con
}

// names are the names in force.
type names interface {
	variable(name string) (meaning, bool)
	constructor(name string) (maker, bool)
}

// functions are the names in force in functions.
type functions struct {
	cons map[string]maker
	funs map[string]meaning
}

func (f functions) variable(name string) (meaning, bool) {
	m, ok := f.funs[name]
	return m, ok
}

func (f functions) constructor(name string) (maker, bool) {
	m, ok := f.cons[name]
	return m, ok
}

// values are the names in force in values and outputs.
type values struct {
	functions
	vals map[string]meaning
}

func (v values) variable(name string) (meaning, bool) {
	if m, ok := v.vals[name]; ok {
		return m, true
	}
	return v.functions.variable(name)
}

// local is a variable in force, which hides one outside that has its name.
type local struct {
	names
	name string
	is   meaning
}

func (l local) variable(name string) (meaning, bool) {
	if name == l.name {
		return l.is, true
	}
	return l.names.variable(name)
}

// with returns the names in force within some that have a variable more.
func with(outside names, name string, own *node) names {
	return local{outside, name, meaning{own: own}}
}

// withAll returns the names in force within some that have more variables.
func withAll(outside names, more []string, own []*node) names {
	for i, name := range more {
		outside = with(outside, name, own[i])
	}
	return outside
}

// outermost returns the names that are in force before the first declaration.
func outermost(datas []api.Data) values {
	cons := map[string]maker{}
	for _, d := range datas {
		for _, c := range d.Cons {
			cons[c.Name] = maker{d, c}
		}
	}
	return values{functions{cons, map[string]meaning{}}, map[string]meaning{}}
}

// binders returns the variables that are in force within an Arg of an expression, the innermost one at last.
func binders(e api.Expr, arg int) []string {
	switch {
	case e.Kind == api.EFn:
		return []string{e.Arg}
	case e.Kind == api.ERec && arg == 0:
		return []string{e.Name, e.Arg}
	case e.Kind == api.ERec, e.Kind == api.ELet && arg == 1:
		return []string{e.Name}
	case e.Kind == api.ECase && arg > 0:
		return patVars(e.Pats[arg-1])
	}
	return nil
}

// patVars returns the variables of a pattern, in the order of writing.
func patVars(p api.Pat) []string {
	if p.Kind == api.PVar {
		return []string{p.Name}
	}
	var result []string
	for _, a := range p.Args {
		result = append(result, patVars(a)...)
	}
	return result
}

// checker checks the names in the bodies of a program.
type checker struct {
	*rules
	names values
	datas map[string]api.Data
}

// checkNames checks names and inputs, declaration by declaration.
func checkNames(p api.Program, datas []api.Data) {
	c := checker{typeRules(datas), outermost(datas), byName(datas)}
	for i, d := range p.Decls {
		c.enter(i)
		c.decl(d)
	}
}

func (c checker) decl(d api.Decl) {
	switch d.Kind {
	case api.DInput:
		c.declare(d.Name)
		c.input(d.Type, c.datas)
		c.names.vals[d.Name] = meaning{}
	case api.DFuns:
		c.group(d.Funs)
	case api.DVal:
		c.declare(d.Name)
		c.expr(d.Body, c.names)
		c.names.vals[d.Name] = meaning{}
	case api.DOutput:
		c.declare(d.Name)
		c.expr(d.Body, c.names)
	}
}

func (c checker) group(funs []api.Fun) {
	for i, f := range funs {
		c.at.Fun = i
		c.declare(f.Name)
		c.names.funs[f.Name] = meaning{}
	}
	for i, f := range funs {
		c.at.Fun = i
		c.expr(f.Body, with(c.names.functions, f.Arg, nil))
	}
}

func (c checker) expr(e api.Expr, in names) {
	switch e.Kind {
	case api.EVar:
		if _, ok := in.variable(e.Name); !ok {
			c.fail(api.ErrName)
		}
	case api.ECon:
		c.made(e.Name, len(e.Args), in)
	}
	for i, a := range e.Args {
		if e.Kind == api.ECase && i > 0 {
			c.arm(e.Pats[i-1], in)
		}
		vars := binders(e, i)
		inner := withAll(in, vars, make([]*node, len(vars)))
		c.within(i, func() { c.expr(a, inner) })
	}
}

// made checks a constructor that has some fields. (A tuple has a right number of them by its form.)
func (c checker) made(name string, fields int, in names) {
	if name == tuple {
		return
	}
	switch m, ok := in.constructor(name); {
	case !ok:
		c.fail(api.ErrName)
	case len(m.con.Args) != fields:
		c.fail(api.ErrCount)
	}
}

// arm checks the pattern of an arm.
func (c checker) arm(p api.Pat, in names) {
	c.pat(p, in)
	vars := patVars(p)
	slices.Sort(vars)
	if len(slices.Compact(vars)) < len(patVars(p)) {
		c.fail(api.ErrTwice)
	}
}

func (c checker) pat(p api.Pat, in names) {
	if p.Kind == api.PCon {
		c.made(p.Name, len(p.Args), in)
	}
	for _, a := range p.Args {
		c.pat(a, in)
	}
}
