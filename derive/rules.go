package derive

import (
	"slices"

	"restitch/api"
)

const (
	integer = "Int"
	boolean = "Bool"
	arrow   = "->"
	tuple   = ","
)

// typed is what an api.Typed is, with types that are there, or that are still to be found.
type typed[T any] struct {
	typ  T
	inst []T
	args []*typed[T]
}

// judge is a way to read the rules: it finds out whether types are as the rules say, or it makes them so.
type judge[T any] interface {
	// formed is about the number of Inst and of Args, and about the types that are there.
	formed(x *typed[T], inst, args int) bool
	// parts returns the Args of a type that has a name, and so many of them.
	parts(t T, name string, count int) ([]T, bool)
	// under returns a type with others in the place of its variables.
	under(t api.Type, of map[string]T) T
	same(l ...T) bool
	// bindable reports whether Bind takes a type: if it is there it has to be known, whatever the pattern is.
	bindable(t T) bool
}

// node is an expression with its types, in its environment.
type node[T any] struct {
	scope[T]
	*typed[T]
	expr api.Expr
}

// rules are the rules of the chapter as a judge reads them.
type rules[T any] struct {
	judge[T]
	at   place // the body that is looked at
	rows [api.EOp + 1]func(node[T]) bool
}

func newRules[T any](j judge[T]) *rules[T] {
	r := &rules[T]{judge: j}
	r.rows = [api.EOp + 1]func(node[T]) bool{
		api.ENum: r.number, api.EVar: r.variable, api.ECon: r.made,
		api.EApp: r.applied, api.EFn: r.function, api.ELet: r.bound,
		api.ERec: r.recursive, api.ECase: r.cases, api.EOp: r.operated,
	}
	return r
}

// fail leaves at a place of the body that is looked at.
func (r *rules[T]) fail(path []int) {
	panic(wrong{api.Blame{Decl: r.at.decl, Fun: r.at.fun, Path: slices.Clone(path)}, api.ErrStep})
}

// need leaves at the whole body unless something is so.
func (r *rules[T]) need(is bool) {
	if !is {
		r.fail(nil)
	}
}

// body follows the rules of a body in its environment, with the types of its element.
func (r *rules[T]) body(in scope[T], f api.Fun, x *typed[T]) {
	result := x.typ
	if f.Arg != "" {
		p, ok := r.parts(x.typ, arrow, 2)
		r.need(ok)
		in, result = in.with(f.Arg, p[0]), p[1]
	}
	r.follow(node[T]{in, x.args[0], f.Body})
	r.need(r.same(result, x.args[0].typ))
}

// follow leaves at the first place at which the types do not follow the rules.
func (r *rules[T]) follow(root node[T]) {
	for path, n := range r.nodes(root) {
		if !r.holds(n) {
			r.fail(path)
		}
	}
}

// nodes yields the expressions of a body with their paths, a node before its Args. What is within a node is looked at after it was yielded: if its rule does not hold, there may be no types for it.
func (r *rules[T]) nodes(root node[T]) func(yield func([]int, node[T]) bool) {
	return func(yield func([]int, node[T]) bool) {
		var path []int
		var visit func(n node[T]) bool
		visit = func(n node[T]) bool {
			if !yield(path, n) {
				return false
			}
			for i, e := range n.expr.Args {
				path = append(path, i)
				if !visit(node[T]{r.inner(n, i), n.args[i], e}) {
					return false
				}
				path = path[:len(path)-1]
			}
			return true
		}
		visit(root)
	}
}

// holds looks at a node by the row of the table that is for it.
func (r *rules[T]) holds(n node[T]) bool {
	return r.formed(n.typed, n.instances(), len(n.expr.Args)) && r.rows[n.expr.Kind](n)
}

// instances returns how many types there are in Inst.
func (n node[T]) instances() int {
	switch n.expr.Kind {
	case api.EVar:
		m, _ := n.find(n.expr.Name)
		return len(m.scheme.Vars)
	case api.ERec:
		return 1
	}
	return 0
}

// inner returns the environment of an Arg of a node whose rule holds.
func (r *rules[T]) inner(n node[T], arg int) scope[T] {
	e := n.expr
	switch {
	case e.Kind == api.EFn:
		p, _ := r.parts(n.typ, arrow, 2)
		return n.with(e.Arg, p[0])
	case e.Kind == api.ELet && arg == 1:
		return n.with(e.Name, n.args[0].typ)
	case e.Kind == api.ERec && arg == 0:
		p, _ := r.parts(n.inst[0], arrow, 2)
		return n.with(e.Name, n.inst[0]).with(e.Arg, p[0])
	case e.Kind == api.ERec:
		return n.with(e.Name, n.inst[0])
	case e.Kind == api.ECase && arg > 0:
		vars, _ := r.bind(n.base, e.Pats[arg-1], n.args[0].typ)
		return n.withAll(vars)
	}
	return n.scope
}

func (r *rules[T]) number(n node[T]) bool { return r.are(integer, n.typ) }

func (r *rules[T]) variable(n node[T]) bool {
	m, ok := n.find(n.expr.Name)
	if !ok || m.single {
		return ok && r.same(n.typ, m.own)
	}
	return r.same(n.typ, r.under(m.scheme.Type, pairs(m.scheme.Vars, n.inst)))
}

func (r *rules[T]) made(n node[T]) bool {
	fields, ok := r.fields(n.base, n.expr.Name, n.typ, len(n.args))
	for i, f := range fields {
		ok = ok && r.same(f, n.args[i].typ)
	}
	return ok
}

func (r *rules[T]) applied(n node[T]) bool {
	p, ok := r.parts(n.args[0].typ, arrow, 2)
	return ok && r.same(n.typ, p[1]) && r.same(p[0], n.args[1].typ)
}

func (r *rules[T]) function(n node[T]) bool {
	p, ok := r.parts(n.typ, arrow, 2)
	return ok && r.same(p[1], n.args[0].typ)
}

func (r *rules[T]) bound(n node[T]) bool { return r.same(n.typ, n.args[1].typ) }

func (r *rules[T]) recursive(n node[T]) bool {
	p, ok := r.parts(n.inst[0], arrow, 2)
	return ok && r.same(p[1], n.args[0].typ) && r.same(n.typ, n.args[1].typ)
}

func (r *rules[T]) cases(n node[T]) bool {
	if !r.bindable(n.args[0].typ) {
		return false
	}
	for i, p := range n.expr.Pats {
		vars, ok := r.bind(n.base, p, n.args[0].typ)
		if !ok || hasTwice(vars) || !r.same(n.typ, n.args[i+1].typ) {
			return false
		}
	}
	return true
}

func (r *rules[T]) operated(n node[T]) bool {
	result := integer
	if n.expr.Name == "<" || n.expr.Name == "=" {
		result = boolean
	}
	return r.are(result, n.typ) && r.are(integer, n.args[0].typ, n.args[1].typ)
}

// are reports whether types are all the one without Args that has a name.
func (r *rules[T]) are(name string, l ...T) bool {
	return r.same(append([]T{r.under(api.Type{Name: name}, nil)}, l...)...)
}

// fields returns the types of the fields of a constructor, or of a tuple, of a type; there have to be so many of them.
func (r *rules[T]) fields(in *base, name string, t T, count int) ([]T, bool) {
	if name == tuple {
		return r.parts(t, tuple, count)
	}
	m, ok := in.makers[name]
	if !ok || len(m.fields) != count {
		return nil, false
	}
	args, ok := r.parts(t, m.data, len(m.vars))
	if !ok {
		return nil, false
	}
	of := pairs(m.vars, args)
	var list []T
	for _, f := range m.fields {
		list = append(list, r.under(f, of))
	}
	return list, true
}

// bind returns the variables of a pattern of a type, from left to right.
func (r *rules[T]) bind(in *base, p api.Pat, t T) ([]binding[T], bool) {
	switch p.Kind {
	case api.PWild:
		return nil, true
	case api.PVar:
		return []binding[T]{{p.Name, t}}, true
	}
	fields, ok := r.fields(in, p.Name, t, len(p.Args))
	if !ok {
		return nil, false
	}
	var vars []binding[T]
	for i, a := range p.Args {
		more, ok := r.bind(in, a, fields[i])
		if !ok {
			return nil, false
		}
		vars = append(vars, more...)
	}
	return vars, true
}

// pairs returns a substitution: the first type for each variable.
func pairs[T any](vars []string, types []T) map[string]T {
	of := map[string]T{}
	for i, v := range vars {
		if _, ok := of[v]; !ok {
			of[v] = types[i]
		}
	}
	return of
}
