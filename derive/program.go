package derive

import (
	"restitch/api"
	"restitch/infer"
)

// review looks at a derivation of a program, declaration by declaration.
type review struct {
	*rules[term]
	names *values
	about api.Derivation
}

// environment returns the environment before the first declaration of a program that is right.
func environment(p api.Program) *values {
	ds, _, _ := infer.Datas(p)
	b, _ := newBase(ds)
	return newValues(b)
}

// checkProgram leaves at the first place at which a derivation, which is as long as its program asks for, is not right.
func checkProgram(p api.Program, d api.Derivation) {
	names := environment(p)
	r := review{newRules(checker{names.base}), names, d}
	for u := range units(p) {
		r.at = place{decl: u.index}
		if u.Kind == api.DInput {
			r.need(isInput(u.Type, d.Schemes[u.scheme].Scheme))
		} else {
			r.unit(u)
		}
		r.names.declare(u, d.Schemes)
	}
}

func isInput(declared api.Type, s api.Scheme) bool {
	return len(s.Vars) == 0 && sameTerms(plain(declared), plain(s.Type))
}

func (r *review) unit(u unit) {
	var elements []*typed[term]
	for _, x := range r.about.Bodies[u.body : u.body+u.bodies()] {
		elements = append(elements, given(x))
	}
	in := opened(r.names, u, elements)
	for i, f := range u.funs {
		r.at.fun = i
		x := elements[i]
		r.need(all(elements, func(x *typed[term]) bool { return r.known(x.typ.Type) }))
		r.need(all(x.inst, func(t term) bool { return r.known(t.Type) }))
		r.body(in, f, x)
		r.need(r.closed(u.Kind, r.about.Schemes[u.scheme+i].Scheme, x))
	}
}

func (r *review) known(t api.Type) bool { return r.names.known(t) }

// closed reports whether a scheme is that of a declaration with an element.
func (r *review) closed(kind int, s api.Scheme, x *typed[term]) bool {
	switch {
	case infer.CheckScheme(s) != api.OK, len(infer.Vars(s.Type)) != len(s.Vars), len(s.Vars) != len(x.inst):
		return false
	case !areVars(x.inst), !r.same(x.typ, r.under(s.Type, pairs(s.Vars, x.inst))):
		return false
	case kind == api.DFuns:
		return true
	}
	return len(s.Vars) == 0 && (kind == api.DVal || !r.names.hasArrow(s.Type))
}

// areVars reports whether types that are known are variables, all different ones.
func areVars(l []term) bool {
	seen := map[string]bool{}
	for _, t := range l {
		if !isVar(t.Type) || seen[t.Name] {
			return false
		}
		seen[t.Name] = true
	}
	return true
}

// search finds a derivation, declaration by declaration.
type search struct {
	*rules[*class]
	names *values
	found api.Derivation
	writer
}

// find returns the derivation of a program that has types, with its schemes, and leaves if it is too great.
func find(p api.Program, schemes []api.Named) api.Derivation {
	s := search{rules: newRules(finder{}), names: environment(p), found: api.Derivation{Schemes: schemes}}
	s.types = Count(s.found)
	for u := range units(p) {
		if u.Kind != api.DInput {
			s.unit(u)
		}
		s.names.declare(u, schemes)
	}
	return s.found
}

func (s *search) unit(u unit) {
	var elements []*typed[*class]
	for range u.funs {
		x := sought()
		s.formed(x, 0, 1)
		elements = append(elements, x)
	}
	in := opened(s.names, u, elements)
	for i, f := range u.funs {
		s.at = place{u.index, i}
		s.body(in, f, elements[i])
	}
	if u.Kind != api.DFuns {
		// The scheme of a value has Int where its body leaves a variable open.
		s.need(s.same(elements[0].typ, s.under(s.found.Schemes[u.scheme].Scheme.Type, nil)))
	}
	s.vars = 0
	for _, x := range elements {
		s.found.Bodies = append(s.found.Bodies, s.element(x))
	}
}

// element writes an element down; its Inst are the variables of its Type in the order in which those of its scheme are.
func (s *search) element(x *typed[*class]) api.Typed {
	result := s.typed(x)
	for _, v := range infer.Vars(result.Type) {
		result.Inst = append(result.Inst, api.Type{Name: v})
	}
	return result
}
