package derive

import (
	"restitch/api"
	"restitch/infer"
)

// maker is what a constructor makes: a data type with variables, from fields.
type maker struct {
	data   string
	vars   []string
	fields []api.Type
}

// base is the outermost environment: the data types.
type base struct {
	datas  map[string]api.Data
	makers map[string]maker // by the names of constructors
}

// newBase returns the environment of data types, and whether they have different names, and fields whose types are known.
func newBase(ds []api.Data) (*base, bool) {
	b := &base{map[string]api.Data{}, map[string]maker{}}
	for _, d := range ds {
		if _, twice := b.datas[d.Name]; twice {
			return nil, false
		}
		b.datas[d.Name] = d
	}
	for _, d := range ds {
		for _, c := range d.Cons {
			if _, twice := b.makers[c.Name]; twice || !all(c.Args, b.known) {
				return nil, false
			}
			b.makers[c.Name] = maker{d.Name, d.Vars, c.Args}
		}
	}
	return b, true
}

// known reports whether a type is known: valid, and each data type in it there with so many Args.
func (b *base) known(t api.Type) bool {
	return infer.CheckType(t) == api.OK && b.declared(t)
}

// declared is known for valid types.
func (b *base) declared(t api.Type) bool {
	if isData(t) {
		if d, ok := b.datas[t.Name]; !ok || len(d.Vars) != len(t.Args) {
			return false
		}
	}
	return all(t.Args, b.declared)
}

// hasArrow reports whether an arrow is in a type that is known, or in a field of a data type that is reached from it.
func (b *base) hasArrow(t api.Type) bool {
	reached := map[string]bool{}
	var within func(t api.Type) bool
	within = func(t api.Type) bool {
		if t.Name == arrow || some(t.Args, within) {
			return true
		}
		if reached[t.Name] {
			return false
		}
		reached[t.Name] = true
		return some(b.datas[t.Name].Cons, func(c api.Con) bool { return some(c.Args, within) })
	}
	return within(t)
}

// functions is the environment of functions: those of the declarations before.
type functions struct {
	*base
	funs map[string]api.Scheme
}

// values is the environment of values and outputs: inputs and values beside the functions. Functions do not have these.
type values struct {
	*functions
	vals map[string]api.Scheme
}

func newValues(b *base) *values {
	return &values{&functions{b, map[string]api.Scheme{}}, map[string]api.Scheme{}}
}

// declare puts the names of a declaration in force for those behind it.
func (v *values) declare(u unit, schemes []api.Named) {
	for i, f := range u.funs {
		switch u.Kind {
		case api.DFuns:
			v.funs[f.Name] = schemes[u.scheme+i].Scheme
		case api.DInput, api.DVal:
			v.vals[f.Name] = schemes[u.scheme+i].Scheme
		}
	}
}

// binding is a variable with its type.
type binding[T any] struct {
	name string
	is   T
}

// variable is a binding in front of others, which it hides.
type variable[T any] struct {
	binding[T]
	next *variable[T]
}

// scope is the environment of an expression: variables in front of the names that its body has outside.
type scope[T any] struct {
	*values
	vars *variable[T]
}

// meaning is what a name has: a type of its own (single), or a scheme.
type meaning[T any] struct {
	single bool
	own    T
	scheme api.Scheme
}

func (s scope[T]) find(name string) (meaning[T], bool) {
	for v := s.vars; v != nil; v = v.next {
		if v.name == name {
			return meaning[T]{single: true, own: v.is}, true
		}
	}
	scheme, ok := s.vals[name]
	if !ok {
		scheme, ok = s.funs[name]
	}
	return meaning[T]{scheme: scheme}, ok
}

func (s scope[T]) with(name string, t T) scope[T] {
	return s.withAll([]binding[T]{{name, t}})
}

func (s scope[T]) withAll(l []binding[T]) scope[T] {
	for _, b := range l {
		s.vars = &variable[T]{b, s.vars}
	}
	return s
}

// opened returns the environment of the bodies of a declaration: of a group with its own functions, by the types of their elements.
func opened[T any](outside *values, u unit, elements []*typed[T]) scope[T] {
	if u.Kind != api.DFuns {
		return scope[T]{values: outside}
	}
	s := scope[T]{values: &values{functions: outside.functions}}
	for i, f := range u.funs {
		s = s.with(f.Name, elements[i].typ)
	}
	return s
}

// hasTwice reports whether two variables have the same name.
func hasTwice[T any](l []binding[T]) bool {
	seen := map[string]bool{}
	for _, b := range l {
		seen[b.name] = true
	}
	return len(seen) < len(l)
}
