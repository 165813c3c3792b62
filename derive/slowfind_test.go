package derive

import (
	"slices"
	"strconv"

	"restitch/api"
	"restitch/infer"
)

// slowFinder finds types by equations between types with variables, which it solves one after the other by infer.Unify.
type slowFinder struct {
	ds    []api.Data
	vars  int
	pairs [][2]api.Type
}

func (s *slowFinder) fresh() api.Type {
	s.vars++
	return api.Type{Name: "'v" + strconv.Itoa(s.vars)}
}

func (s *slowFinder) freshAll(n int) (l []api.Type) {
	for range n {
		l = append(l, s.fresh())
	}
	return l
}

func (s *slowFinder) equal(a, b api.Type) { s.pairs = append(s.pairs, [2]api.Type{a, b}) }

// fields writes down that a type is that of a constructor, and returns the types of its fields.
func (s *slowFinder) fields(con string, count int, t api.Type) []api.Type {
	if con == "," {
		l := s.freshAll(count)
		s.equal(t, api.Type{Name: ",", Args: l})
		return l
	}
	for _, d := range s.ds {
		for _, c := range d.Cons {
			if c.Name == con {
				u := api.Type{Name: d.Name, Args: s.freshAll(len(d.Vars))}
				s.equal(t, u)
				l, _ := slow{s.ds}.fields(con, count, u)
				return l
			}
		}
	}
	return nil
}

func (s *slowFinder) bind(p api.Pat, t api.Type) (l []api.Named) {
	switch p.Kind {
	case api.PVar:
		return []api.Named{sole(p.Name, t)}
	case api.PCon:
		for i, u := range s.fields(p.Name, len(p.Args), t) {
			l = append(l, s.bind(p.Args[i], u)...)
		}
	}
	return l
}

func (s *slowFinder) expr(env []api.Named, e api.Expr) api.Typed {
	x := api.Typed{Type: s.fresh()}
	in := func(i int, more ...api.Named) api.Type {
		x.Args = append(x.Args, s.expr(append(slices.Clip(env), more...), e.Args[i]))
		return x.Args[i].Type
	}
	integer := theInt()
	switch e.Kind {
	case api.ENum:
		s.equal(x.Type, integer)
	case api.EVar:
		i := len(env) - 1
		for env[i].Name != e.Name {
			i--
		}
		x.Inst = s.freshAll(len(env[i].Scheme.Vars))
		s.equal(x.Type, put(env[i].Scheme.Type, env[i].Scheme.Vars, x.Inst))
	case api.ECon:
		for i, u := range s.fields(e.Name, len(e.Args), x.Type) {
			s.equal(u, in(i))
		}
	case api.EApp:
		f := in(0)
		s.equal(f, to(in(1), x.Type))
	case api.EFn:
		a := s.fresh()
		s.equal(x.Type, to(a, in(0, sole(e.Arg, a))))
	case api.ELet:
		a := in(0)
		s.equal(x.Type, in(1, sole(e.Name, a)))
	case api.ERec:
		a, b := s.fresh(), s.fresh()
		f := sole(e.Name, to(a, b))
		x.Inst = []api.Type{f.Scheme.Type}
		s.equal(b, in(0, f, sole(e.Arg, a)))
		s.equal(x.Type, in(1, f))
	case api.ECase:
		a := in(0)
		for i, p := range e.Pats {
			s.equal(x.Type, in(i+1, s.bind(p, a)...))
		}
	case api.EOp:
		s.equal(in(0), integer)
		s.equal(in(1), integer)
		if e.Name == "<" || e.Name == "=" {
			integer.Name = "Bool"
		}
		s.equal(x.Type, integer)
	}
	return x
}

// solved returns what makes all equations hold.
func (s *slowFinder) solved() (binds []api.Bind) {
	for _, p := range s.pairs {
		a, _ := infer.Apply(binds, p[0])
		b, _ := infer.Apply(binds, p[1])
		more, e := infer.Unify(a, b)
		if e != api.OK {
			panic("no solution")
		}
		for i := range binds {
			binds[i].Type, _ = infer.Apply(more, binds[i].Type)
		}
		binds = append(binds, more...)
	}
	return binds
}

func applyTyped(binds []api.Bind, x api.Typed) api.Typed {
	var result api.Typed
	result.Type, _ = infer.Apply(binds, x.Type)
	for _, t := range x.Inst {
		u, _ := infer.Apply(binds, t)
		result.Inst = append(result.Inst, u)
	}
	for _, a := range x.Args {
		result.Args = append(result.Args, applyTyped(binds, a))
	}
	return result
}

// slowBodies returns the types of the bodies of a program that has types, without the Inst of the elements themselves.
func slowBodies(p api.Program, schemes []api.Named) (result []api.Typed) {
	ds, _, _ := infer.Datas(p)
	all := bodiesOf(p)
	for k := 0; k < len(all); k += all[k].count {
		s := &slowFinder{ds: ds}
		group := all[k : k+all[k].count]
		d := api.Derivation{Schemes: schemes, Bodies: slices.Clone(result)}
		for range group {
			d.Bodies = append(d.Bodies, api.Typed{Type: s.fresh()})
		}
		for i, b := range group {
			env, own := outside(p, d, b), &d.Bodies[k+i]
			if b.kind == api.DFuns {
				arg := s.fresh()
				own.Args = []api.Typed{s.expr(append(env, sole(b.fun.Arg, arg)), b.fun.Body)}
				s.equal(own.Type, to(arg, own.Args[0].Type))
			} else {
				own.Args = []api.Typed{s.expr(env, b.fun.Body)}
				s.equal(own.Type, own.Args[0].Type)
				s.equal(own.Type, schemes[b.name].Scheme.Type)
			}
		}
		binds := s.solved()
		for _, x := range d.Bodies[k:] {
			result = append(result, applyTyped(binds, x))
		}
	}
	return result
}

// renaming finds whether types are the same but for the names of variables.
type renaming struct{ there, back map[string]string }

func newRenaming() renaming { return renaming{map[string]string{}, map[string]string{}} }

func (r renaming) types(a, b api.Type) bool {
	if a.Name == "" || b.Name == "" || len(a.Args) != len(b.Args) {
		return false
	}
	if a.Name[0] == '\'' && b.Name[0] == '\'' {
		_, ok1 := r.there[a.Name]
		_, ok2 := r.back[b.Name]
		if !ok1 && !ok2 {
			r.there[a.Name], r.back[b.Name] = b.Name, a.Name
		}
		return r.there[a.Name] == b.Name && r.back[b.Name] == a.Name
	}
	return a.Name == b.Name && slices.EqualFunc(a.Args, b.Args, r.types)
}

// typed looks at expressions; the Inst of the outermost ones is not looked at.
func (r renaming) typed(a, b api.Typed, outermost bool) bool {
	return r.types(a.Type, b.Type) && (outermost || slices.EqualFunc(a.Inst, b.Inst, r.types)) &&
		slices.EqualFunc(a.Args, b.Args, func(a, b api.Typed) bool { return r.typed(a, b, false) })
}
