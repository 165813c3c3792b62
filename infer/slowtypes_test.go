package infer

import (
	"maps"
	"slices"
	"strconv"

	"restitch/api"
)

// slowStep is a step, with its place, and the types that it makes equal.
type slowStep struct {
	at    api.Blame
	pairs [][2]api.Type
}

// slowTyper is a slow reading of what the types of a program are: it writes all equations of a declaration down, and solves those of the first steps, of one step more, and so on.
type slowTyper struct {
	vars  int
	at    api.Blame
	steps []slowStep
	cons  map[string]maker
	top   map[string]api.Scheme
	named []api.Named
}

func (s *slowTyper) fresh() api.Type {
	s.vars++
	return api.Type{Name: "'t" + strconv.Itoa(s.vars)}
}

func (s *slowTyper) step(path []int, pairs ...[2]api.Type) {
	at := s.at
	at.Path = slices.Clone(path)
	s.steps = append(s.steps, slowStep{at, pairs})
}

func to(a, b api.Type) api.Type { return api.Type{Name: "->", Args: []api.Type{a, b}} }

// fields returns an instance of the result of a constructor, and of its fields.
func (s *slowTyper) fields(name string, args int) (result api.Type, fields []api.Type) {
	if name == "," {
		for range args {
			fields = append(fields, s.fresh())
		}
		return api.Type{Name: ",", Args: fields}, fields
	}
	m := s.cons[name]
	result = api.Type{Name: m.data.Name}
	var l []api.Bind
	for _, v := range m.data.Vars {
		result.Args = append(result.Args, s.fresh())
		l = append(l, api.Bind{Var: v, Type: result.Args[len(result.Args)-1]})
	}
	for _, f := range m.con.Args {
		u, _ := Apply(l, f)
		fields = append(fields, u)
	}
	return result, fields
}

// expr writes the steps of an expression down, and returns its type.
func (s *slowTyper) expr(e api.Expr, env map[string]api.Type, path []int) api.Type {
	own := s.fresh()
	in := func(i int, more map[string]api.Type) api.Type {
		inner := maps.Clone(env)
		maps.Copy(inner, more)
		return s.expr(e.Args[i], inner, append(slices.Clone(path), i))
	}
	var pairs [][2]api.Type
	equal := func(a, b api.Type) { pairs = append(pairs, [2]api.Type{a, b}) }
	switch e.Kind {
	case api.ENum:
		equal(own, theInt())
	case api.EVar:
		equal(own, s.variable(e.Name, env))
	case api.ECon:
		result, fields := s.fields(e.Name, len(e.Args))
		for i := range e.Args {
			equal(fields[i], in(i, nil))
		}
		equal(own, result)
	case api.EApp:
		f := in(0, nil)
		equal(f, to(in(1, nil), own))
	case api.EFn:
		x := s.fresh()
		equal(own, to(x, in(0, map[string]api.Type{e.Arg: x})))
	case api.ELet:
		x := s.fresh()
		equal(x, in(0, nil))
		equal(own, in(1, map[string]api.Type{e.Name: x}))
	case api.ERec:
		f, x := s.fresh(), s.fresh()
		inner := map[string]api.Type{e.Name: f}
		inner[e.Arg] = x
		equal(f, to(x, in(0, inner)))
		equal(own, in(1, map[string]api.Type{e.Name: f}))
	case api.ECase:
		first := in(0, nil)
		var vars []map[string]api.Type
		for _, p := range e.Pats {
			vars = append(vars, map[string]api.Type{})
			equal(first, s.pat(p, vars[len(vars)-1], path))
		}
		for i := range e.Pats {
			equal(own, in(i+1, vars[i]))
		}
	case api.EOp:
		equal(in(0, nil), theInt())
		equal(in(1, nil), theInt())
		if e.Name == "<" || e.Name == "=" {
			equal(own, api.Type{Name: "Bool"})
		} else {
			equal(own, theInt())
		}
	}
	s.step(path, pairs...)
	return own
}

func (s *slowTyper) pat(p api.Pat, vars map[string]api.Type, path []int) api.Type {
	own := s.fresh()
	if p.Kind == api.PVar {
		vars[p.Name] = own
	}
	if p.Kind != api.PCon {
		return own
	}
	result, fields := s.fields(p.Name, len(p.Args))
	pairs := [][2]api.Type{{own, result}}
	for i, a := range p.Args {
		pairs = append(pairs, [2]api.Type{fields[i], s.pat(a, vars, path)})
	}
	s.step(path, pairs...)
	return own
}

func (s *slowTyper) variable(name string, env map[string]api.Type) api.Type {
	if t, ok := env[name]; ok {
		return t
	}
	var l []api.Bind
	for _, v := range s.top[name].Vars {
		l = append(l, api.Bind{Var: v, Type: s.fresh()})
	}
	u, _ := Apply(l, s.top[name].Type)
	return u
}

// solution returns the solution of the first steps.
func (s *slowTyper) solution(n int) (*slow, api.Errno) {
	eq := newSlow()
	for _, st := range s.steps[:n] {
		for _, p := range st.pairs {
			eq.join(p[0], p[1])
		}
	}
	return eq, eq.check()
}

// solved returns the types, which the variables of all steps stand for, or the place of the first step without a solution.
func (s *slowTyper) solved(l []api.Type) ([]api.Type, api.Blame, api.Errno) {
	eq, e := s.solution(len(s.steps))
	if e != api.OK {
		n := 0
		for e = api.OK; e == api.OK; n++ {
			_, e = s.solution(n + 1)
		}
		return nil, s.steps[n-1].at, api.ErrType
	}
	var result []api.Type
	for _, t := range l {
		eq.find(t)
		u, _ := eq.full(t, 1000)
		result = append(result, u)
	}
	s.steps = nil
	return result, api.Blame{}, api.OK
}

func (s *slowTyper) name(name string, t api.Type) {
	s.top[name] = rename(t)
	s.named = append(s.named, api.Named{Name: name, Scheme: s.top[name]})
}

func (s *slowTyper) decl(d api.Decl) (api.Blame, api.Errno) {
	var own []api.Type
	env := map[string]api.Type{}
	switch d.Kind {
	case api.DData:
		return api.Blame{}, api.OK
	case api.DInput:
		s.name(d.Name, d.Type)
		return api.Blame{}, api.OK
	case api.DFuns:
		for _, f := range d.Funs {
			own = append(own, s.fresh())
			env[f.Name] = own[len(own)-1]
		}
		for i, f := range d.Funs {
			s.at.Fun = i
			x := s.fresh()
			inner := maps.Clone(env)
			inner[f.Arg] = x
			body := s.expr(f.Body, inner, nil)
			s.step(nil, [2]api.Type{own[i], to(x, body)})
		}
	default:
		own = append(own, s.expr(d.Body, env, nil))
	}
	l, at, e := s.solved(own)
	for i, f := range d.Funs {
		if e == api.OK {
			s.name(f.Name, l[i])
		}
	}
	if e != api.OK || d.Kind == api.DFuns {
		return at, e
	}
	var ints []api.Bind
	for _, v := range Vars(l[0]) {
		ints = append(ints, api.Bind{Var: v, Type: theInt()})
	}
	u, _ := Apply(ints, l[0])
	s.name(d.Name, u)
	if d.Kind == api.DOutput && slowArrow(u, s.cons, 6) {
		return s.at, api.ErrOutput
	}
	return api.Blame{}, api.OK
}

// slowArrow looks for an arrow in a type, and in those that are reached from it in a few steps.
func slowArrow(t api.Type, cons map[string]maker, steps int) bool {
	if t.Name == "->" || steps > 0 && slices.ContainsFunc(t.Args, func(a api.Type) bool { return slowArrow(a, cons, steps) }) {
		return true
	}
	for _, m := range cons {
		for _, f := range m.con.Args {
			if steps > 0 && m.data.Name == t.Name && slowArrow(f, cons, steps-1) {
				return true
			}
		}
	}
	return false
}

// slowInfer is Infer, for programs that Static accepts, whose types do not get too great.
func slowInfer(p api.Program) ([]api.Named, api.Blame, api.Errno) {
	datas, _, _ := Datas(p)
	s := &slowTyper{cons: map[string]maker{}, top: map[string]api.Scheme{}}
	for _, d := range datas {
		for _, c := range d.Cons {
			s.cons[c.Name] = maker{d, c}
		}
	}
	for i, d := range p.Decls {
		s.at = api.Blame{Decl: i}
		if at, e := s.decl(d); e != api.OK {
			return nil, at, e
		}
	}
	return s.named, api.Blame{}, api.OK
}
