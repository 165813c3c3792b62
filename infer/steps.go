package infer

import "restitch/api"

// exprStep is the step of an expression: its type, those of its Args, those of the variables that it binds itself, and those of its patterns.
type exprStep struct {
	expr  api.Expr
	in    names
	own   *node
	args  []*node
	bound []*node
	pats  []*node
}

// patStep is the step of a pattern: its type, and those of its Args.
type patStep struct {
	pat  api.Pat
	in   names
	own  *node
	args []*node
}

// funStep is the step of the whole body of a function: the types of the function, its parameter, and its body.
type funStep struct{ own, param, body *node }

// typer finds the types of a program, step by step.
type typer struct {
	place
	solver
	names  values
	datas  map[string]api.Data
	result []api.Named
}

// infer returns the schemes of a program that keeps the rules of data types, of names, and of inputs.
func infer(p api.Program) []api.Named {
	datas, _, _ := Datas(p)
	t := &typer{names: outermost(datas), datas: byName(datas)}
	t.solver.fail = func(api.Errno) { t.place.fail(api.ErrType) }
	for i, d := range p.Decls {
		t.enter(i)
		t.decl(d)
	}
	return t.result
}

func (t *typer) decl(d api.Decl) {
	switch d.Kind {
	case api.DInput:
		t.names.vals[d.Name] = t.add(d.Name, d.Type)
	case api.DFuns:
		t.group(d.Funs)
	case api.DVal:
		t.names.vals[d.Name] = t.add(d.Name, t.value(d.Body))
	case api.DOutput:
		u := t.value(d.Body)
		if hasArrow(u, t.datas) {
			t.place.fail(api.ErrOutput)
		}
		t.add(d.Name, u)
	}
}

// add gives a name its type.
func (t *typer) add(name string, u api.Type) meaning {
	s := rename(u)
	t.result = append(t.result, api.Named{Name: name, Scheme: s})
	return meaning{scheme: s}
}

// value returns the type of the body of a value or an output.
func (t *typer) value(body api.Expr) api.Type {
	u := t.read(t.expr(body, t.names))
	return replace(u, func(string) (api.Type, bool) { return api.Type{Name: integer}, true })
}

func (t *typer) group(funs []api.Fun) {
	var in names = t.names.functions
	var own []*node
	for i, f := range funs {
		own = append(own, t.fresh())
		in = with(in, f.Name, own[i])
	}
	for i, f := range funs {
		t.at.Fun = i
		param := t.fresh()
		body := t.expr(f.Body, with(in, f.Arg, param))
		t.take(funStep{own[i], param, body})
	}
	for i, f := range funs {
		t.at.Fun = i
		t.names.funs[f.Name] = t.add(f.Name, t.read(own[i]))
	}
}

// read returns the type of a node, and leaves if it is too great.
func (t *typer) read(n *node) api.Type {
	u, _, e := attempt(func() api.Type { return read(n, nameOf) })
	if e != api.OK {
		t.place.fail(e)
	}
	return u
}

// expr takes the steps of an expression, and returns its type.
func (t *typer) expr(e api.Expr, in names) *node {
	s := exprStep{expr: e, in: in, own: t.fresh()}
	for range bindings(e) {
		s.bound = append(s.bound, t.fresh())
	}
	arms := make([][]*node, len(e.Pats))
	for i, a := range e.Args {
		bound := s.bound
		if e.Kind == api.ECase && i > 0 {
			bound = arms[i-1]
		}
		inner := withAll(in, binders(e, i), bound)
		t.within(i, func() { s.args = append(s.args, t.expr(a, inner)) })
		if e.Kind == api.ECase && i == 0 {
			for j, p := range e.Pats {
				s.pats = append(s.pats, t.pat(p, in, &arms[j]))
			}
		}
	}
	t.take(s)
	return s.own
}

// pat takes the steps of a pattern, adds the types of its variables to a list, and returns its type.
func (t *typer) pat(p api.Pat, in names, vars *[]*node) *node {
	s := patStep{pat: p, in: in, own: t.fresh()}
	if p.Kind == api.PVar {
		*vars = append(*vars, s.own)
	}
	for _, a := range p.Args {
		s.args = append(s.args, t.pat(a, in, vars))
	}
	t.take(s)
	return s.own
}

// take adds the equations of a step to those before, and leaves if they have no solution any more.
func (t *typer) take(step any) {
	equal := func(a, b *node) { t.equal(a, b) }
	switch s := step.(type) {
	case exprStep:
		t.exprEquations(s, equal)
	case patStep:
		if s.pat.Kind == api.PCon {
			t.conEquations(s.pat.Name, s.in, s.own, s.args, equal)
		}
	case funStep:
		equal(s.own, typeOf(arrow, s.param, s.body))
	}
	t.cycles()
}

// exprEquations hands on the equations of an expression.
func (t *typer) exprEquations(s exprStep, equal func(a, b *node)) {
	switch s.expr.Kind {
	case api.ENum:
		equal(s.own, typeOf(integer))
	case api.EVar:
		equal(s.own, t.variable(s.expr.Name, s.in))
	case api.ECon:
		t.conEquations(s.expr.Name, s.in, s.own, s.args, equal)
	case api.EApp:
		equal(s.args[0], typeOf(arrow, s.args[1], s.own))
	case api.EFn:
		equal(s.own, typeOf(arrow, s.bound[0], s.args[0]))
	case api.ELet:
		equal(s.bound[0], s.args[0])
		equal(s.own, s.args[1])
	case api.ERec:
		equal(s.bound[0], typeOf(arrow, s.bound[1], s.args[0]))
		equal(s.own, s.args[1])
	case api.ECase:
		for i, p := range s.pats {
			equal(s.args[0], p)
			equal(s.own, s.args[i+1])
		}
	case api.EOp:
		equal(s.args[0], typeOf(integer))
		equal(s.args[1], typeOf(integer))
		equal(s.own, typeOf(resultOf(s.expr.Name)))
	}
}

// conEquations hands on the equations of a constructor, or a tuple, with its fields.
func (t *typer) conEquations(name string, in names, own *node, fields []*node, equal func(a, b *node)) {
	if name == tuple {
		equal(own, typeOf(tuple, fields...))
		return
	}
	m, _ := in.constructor(name)
	vars := map[string]*node{}
	result := typeOf(m.data.Name)
	for _, v := range m.data.Vars {
		vars[v] = t.fresh()
		result.args = append(result.args, vars[v])
	}
	equal(own, result)
	for i, f := range fields {
		equal(f, t.node(m.con.Args[i], vars))
	}
}

// variable returns the type of a variable in force: of a scheme a fresh instance.
func (t *typer) variable(name string, in names) *node {
	m, _ := in.variable(name)
	if m.own != nil {
		return m.own
	}
	return t.node(m.scheme.Type, map[string]*node{})
}

func typeOf(name string, args ...*node) *node { return &node{name: name, args: args} }

// resultOf returns the type of what an operator makes of two integers.
func resultOf(sign string) string {
	if sign == "<" || sign == "=" {
		return boolean
	}
	return integer
}

// bindings returns how many variables an expression binds itself, without its patterns.
func bindings(e api.Expr) int {
	switch e.Kind {
	case api.EFn, api.ELet:
		return 1
	case api.ERec:
		return 2
	}
	return 0
}
