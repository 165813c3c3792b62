package derive

import (
	"slices"

	"restitch/api"
	"restitch/infer"
)

// slow is a slow reading of the chapter's rules, for types that end: it carries all substitutions out, and compares types by what is written.
type slow struct{ ds []api.Data }

func (s slow) known(t api.Type) bool {
	if infer.CheckType(t) != api.OK {
		return false
	}
	if t.Name[0] >= 'A' && t.Name[0] <= 'Z' && t.Name != "Int" {
		i := slices.IndexFunc(s.ds, func(d api.Data) bool { return d.Name == t.Name })
		if i < 0 || len(s.ds[i].Vars) != len(t.Args) {
			return false
		}
	}
	for _, a := range t.Args {
		if !s.known(a) {
			return false
		}
	}
	return true
}

// put returns a type with types in the place of variables.
func put(t api.Type, vars []string, types []api.Type) api.Type {
	if i := slices.Index(vars, t.Name); i >= 0 {
		return types[i]
	}
	result := api.Type{Name: t.Name}
	for _, a := range t.Args {
		result.Args = append(result.Args, put(a, vars, types))
	}
	return result
}

func to(a, b api.Type) api.Type { return api.Type{Name: "->", Args: []api.Type{a, b}} }

func sole(name string, t api.Type) api.Named {
	return api.Named{Name: name, Scheme: api.Scheme{Type: t}}
}

// fields returns the types of the fields of a constructor of a type.
func (s slow) fields(con string, count int, t api.Type) ([]api.Type, bool) {
	if con == "," {
		return t.Args, t.Name == "," && len(t.Args) == count
	}
	for _, d := range s.ds {
		for _, c := range d.Cons {
			if c.Name == con {
				if t.Name != d.Name || len(t.Args) != len(d.Vars) || len(c.Args) != count {
					return nil, false
				}
				var result []api.Type
				for _, f := range c.Args {
					result = append(result, put(f, d.Vars, t.Args))
				}
				return result, true
			}
		}
	}
	return nil, false
}

func (s slow) bind(p api.Pat, t api.Type) ([]api.Named, bool) {
	if p.Kind == api.PVar {
		return []api.Named{sole(p.Name, t)}, true
	}
	if p.Kind == api.PWild {
		return nil, true
	}
	fields, ok := s.fields(p.Name, len(p.Args), t)
	if !ok {
		return nil, false
	}
	var result []api.Named
	for i, a := range p.Args {
		l, ok := s.bind(a, fields[i])
		if !ok {
			return nil, false
		}
		result = append(result, l...)
	}
	return result, true
}

func twice(l []api.Named) bool {
	for i := range l {
		for j := range i {
			if l[i].Name == l[j].Name {
				return true
			}
		}
	}
	return false
}

// row reports whether the row of an expression holds, and returns the environments of its Args.
func (s slow) row(env []api.Named, e api.Expr, x api.Typed) (inner [][]api.Named, ok bool) {
	if len(x.Args) != len(e.Args) || !s.known(x.Type) {
		return nil, false
	}
	for _, t := range x.Inst {
		if !s.known(t) {
			return nil, false
		}
	}
	for range e.Args {
		inner = append(inner, env)
	}
	if e.Kind != api.EVar && e.Kind != api.ERec && len(x.Inst) > 0 {
		return nil, false
	}
	add := func(i int, l ...api.Named) { inner[i] = append(slices.Clone(inner[i]), l...) }
	ok = s.holds(env, e, x, add)
	return inner, ok
}

func (s slow) holds(env []api.Named, e api.Expr, x api.Typed, add func(int, ...api.Named)) bool {
	same := func(a, b api.Type) bool { return key(a) == key(b) }
	switch e.Kind {
	case api.ENum:
		return key(x.Type) == "Int"
	case api.EVar:
		for i := len(env) - 1; i >= 0; i-- {
			if c := env[i].Scheme; env[i].Name == e.Name {
				return len(x.Inst) == len(c.Vars) && same(x.Type, put(c.Type, c.Vars, x.Inst))
			}
		}
		return false
	case api.ECon:
		fields, ok := s.fields(e.Name, len(e.Args), x.Type)
		for i := 0; ok && i < len(fields); i++ {
			ok = same(fields[i], x.Args[i].Type)
		}
		return ok
	case api.EApp:
		return same(x.Args[0].Type, to(x.Args[1].Type, x.Type))
	case api.EFn:
		if x.Type.Name != "->" || !same(x.Args[0].Type, x.Type.Args[1]) {
			return false
		}
		add(0, sole(e.Arg, x.Type.Args[0]))
	case api.ELet:
		add(1, sole(e.Name, x.Args[0].Type))
		return same(x.Type, x.Args[1].Type)
	case api.ERec:
		if len(x.Inst) != 1 || x.Inst[0].Name != "->" || !same(x.Args[0].Type, x.Inst[0].Args[1]) {
			return false
		}
		add(1, sole(e.Name, x.Inst[0]))
		add(0, sole(e.Name, x.Inst[0]), sole(e.Arg, x.Inst[0].Args[0]))
		return same(x.Type, x.Args[1].Type)
	case api.ECase:
		for i, p := range e.Pats {
			l, ok := s.bind(p, x.Args[0].Type)
			if !ok || twice(l) || !s.known(x.Args[0].Type) || !same(x.Type, x.Args[i+1].Type) {
				return false
			}
			add(i+1, l...)
		}
	case api.EOp:
		want := "Int"
		if e.Name == "<" || e.Name == "=" {
			want = "Bool"
		}
		return key(x.Type) == want && key(x.Args[0].Type) == "Int" && key(x.Args[1].Type) == "Int"
	}
	return true
}

// step returns the path to the first place that does not follow the rules.
func (s slow) step(env []api.Named, e api.Expr, x api.Typed) ([]int, bool) {
	inner, ok := s.row(env, e, x)
	if !ok {
		return nil, false
	}
	for i := range e.Args {
		if path, ok := s.step(inner[i], e.Args[i], x.Args[i]); !ok {
			return append([]int{i}, path...), false
		}
	}
	return nil, true
}

// body is a body of a program with its place, and what is around it.
type body struct {
	at    api.Blame
	fun   api.Fun
	kind  int
	name  int // the index of its name
	first int // the index of the first body of its declaration
	count int // how many bodies this has
}

func bodiesOf(p api.Program) (result []body) {
	names := 0
	for i, d := range p.Decls {
		funs := d.Funs
		switch d.Kind {
		case api.DInput:
			names++
		case api.DVal, api.DOutput:
			funs = []api.Fun{{Name: d.Name, Body: d.Body}}
		}
		first := len(result)
		for j, f := range funs {
			result = append(result, body{api.Blame{Decl: i, Fun: j}, f, d.Kind, names, first, len(funs)})
			names++
		}
	}
	return result
}

// outside returns the environment of a body, without its function's Arg.
func outside(p api.Program, d api.Derivation, b body) (result []api.Named) {
	n := 0
	for _, c := range p.Decls[:b.at.Decl] {
		switch c.Kind {
		case api.DFuns:
			result = append(result, d.Schemes[n:n+len(c.Funs)]...)
			n += len(c.Funs)
		case api.DInput, api.DVal:
			if b.kind != api.DFuns {
				result = append(result, d.Schemes[n])
			}
			n++
		case api.DOutput:
			n++
		}
	}
	for i, f := range p.Decls[b.at.Decl].Funs {
		result = append(result, sole(f.Name, d.Bodies[b.first+i].Type))
	}
	return result
}

// check returns the place at which a derivation is wrong, of a program that is right, with as many schemes and bodies as it has.
func (s slow) check(p api.Program, d api.Derivation) (api.Blame, bool) {
	bodies := bodiesOf(p)
	names := 0
	for i, c := range p.Decls {
		if c.Kind == api.DInput {
			if n := d.Schemes[names].Scheme; len(n.Vars) > 0 || key(n.Type) != key(c.Type) {
				return api.Blame{Decl: i}, false
			}
		}
		for k, b := range bodies {
			if b.at.Decl == i {
				if path, ok := s.body(p, d, b, d.Bodies[k]); !ok {
					b.at.Path = path
					return b.at, false
				}
			}
		}
		switch c.Kind {
		case api.DFuns:
			names += len(c.Funs)
		case api.DInput, api.DVal, api.DOutput:
			names++
		}
	}
	return api.Blame{}, true
}

func (s slow) body(p api.Program, d api.Derivation, b body, x api.Typed) ([]int, bool) {
	for _, y := range d.Bodies[b.first : b.first+b.count] {
		if !s.known(y.Type) {
			return nil, false
		}
	}
	for _, t := range x.Inst {
		if !s.known(t) {
			return nil, false
		}
	}
	env, result := outside(p, d, b), x.Type
	if b.kind == api.DFuns {
		if x.Type.Name != "->" {
			return nil, false
		}
		env, result = append(env, sole(b.fun.Arg, x.Type.Args[0])), x.Type.Args[1]
	}
	if path, ok := s.step(env, b.fun.Body, x.Args[0]); !ok {
		return path, false
	}
	return nil, key(result) == key(x.Args[0].Type) && s.closed(b.kind, d.Schemes[b.name].Scheme, x)
}

func (s slow) closed(kind int, c api.Scheme, x api.Typed) bool {
	if infer.CheckScheme(c) != api.OK || len(c.Vars) != len(x.Inst) {
		return false
	}
	for _, v := range infer.Vars(c.Type) {
		if !slices.Contains(c.Vars, v) {
			return false
		}
	}
	for i, t := range x.Inst {
		if t.Name[0] != '\'' || slices.ContainsFunc(x.Inst[:i], func(u api.Type) bool { return u.Name == t.Name }) {
			return false
		}
	}
	if key(put(c.Type, c.Vars, x.Inst)) != key(x.Type) || kind != api.DFuns && len(c.Vars) > 0 {
		return false
	}
	return kind != api.DOutput || !s.arrow(c.Type, 8)
}

// arrow looks for an arrow in a type, and in those that are reached from it in a few steps.
func (s slow) arrow(t api.Type, steps int) bool {
	if t.Name == "->" {
		return true
	}
	l := slices.Clone(t.Args)
	for _, d := range s.ds {
		for _, c := range d.Cons {
			if d.Name == t.Name {
				l = append(l, c.Args...)
			}
		}
	}
	return steps > 0 && slices.ContainsFunc(l, func(u api.Type) bool { return s.arrow(u, steps-1) })
}
