package eval

import "restitch/api"

// value is a value at run time: a number, a constructor with its fields, or a function.
type value interface {
	// fits reports whether a pattern matches the value.
	fits(p *api.Pat) bool
}

type number int

// made is a constructor, or a tuple, with its fields.
type made struct {
	con    string
	fields []value
}

// function is a function, with the environment in which it was made.
type function struct {
	param string
	body  *api.Expr
	in    *env
}

func (n number) fits(p *api.Pat) bool { return p.Kind != api.PCon }

func (f *function) fits(p *api.Pat) bool { return p.Kind != api.PCon }

func (m *made) fits(p *api.Pat) bool {
	if p.Kind != api.PCon {
		return true
	}
	if m.con != p.Name || len(m.fields) != len(p.Args) {
		return false
	}
	for i, f := range m.fields {
		if !f.fits(&p.Args[i]) {
			return false
		}
	}
	return true
}

// called returns the body of a function, with the environment in which its parameter has a value.
func (f *function) called(arg value) (*api.Expr, *env) { return f.body, f.in.with(f.param, arg) }

// live returns a value as it is at run time.
func live(v api.Value) value {
	if isInteger(v) {
		return number(v.Num)
	}
	m := &made{con: v.Con}
	for _, a := range v.Args {
		m.fields = append(m.fields, live(a))
	}
	return m
}

// plain returns a value without functions as it is outside of a run. It calls a function for each value that is met, before those within it.
func plain(v value, met func()) (result api.Value) {
	met()
	switch v := v.(type) {
	case number:
		result.Num = int(v)
	case *made:
		result.Con = v.con
		for _, f := range v.fields {
			result.Args = append(result.Args, plain(f, met))
		}
	default:
		panic(wrong{e: api.ErrStuck})
	}
	return result
}

// env is an environment: a list of what is bound, the innermost one first. A pattern is bound as a whole, because it may have many variables of which few are used.
type env struct {
	name  string   // of a variable,
	pat   *api.Pat // or a pattern
	is    value
	outer *env
}

func (e *env) with(name string, is value) *env { return &env{name: name, is: is, outer: e} }

func (e *env) withMatch(p *api.Pat, is value) *env { return &env{pat: p, is: is, outer: e} }

// find returns what a name stands for.
func (e *env) find(name string) value {
	for ; e != nil; e = e.outer {
		if e.pat == nil && e.name == name {
			return e.is
		}
		if e.pat == nil {
			continue
		}
		if v, ok := matched(e.pat, e.is, name); ok {
			return v
		}
	}
	panic(wrong{e: api.ErrStuck})
}

// matched returns the part of a value that the last variable with a name matches in a pattern which matches it.
func matched(p *api.Pat, v value, name string) (value, bool) {
	if p.Kind == api.PVar && p.Name == name {
		return v, true
	}
	m, ok := v.(*made)
	if !ok {
		return nil, false
	}
	for i := len(p.Args) - 1; i >= 0; i-- {
		if found, ok := matched(&p.Args[i], m.fields[i], name); ok {
			return found, true
		}
	}
	return nil, false
}

// match returns the parts of a valid value that the variables of a pattern match, from left to right.
func match(p api.Pat, v api.Value) (result []api.NamedValue, ok bool) {
	whole := live(v)
	if !whole.fits(&p) {
		return nil, false
	}
	var collect func(p api.Pat, v api.Value)
	collect = func(p api.Pat, v api.Value) {
		if p.Kind == api.PVar {
			result = append(result, api.NamedValue{Name: p.Name, Value: copyValue(v)})
		}
		for i, a := range p.Args {
			collect(a, v.Args[i])
		}
	}
	collect(p, v)
	return result, true
}
