package eval

import (
	"strings"

	"restitch/api"
)

const integer = "Int"

// maker is a constructor, with its data type.
type maker struct {
	data api.Data
	con  api.Con
}

// makers are the constructors of data types by their names: of two with the same name the first one.
type makers map[string]maker

func makersOf(ds []api.Data) makers {
	result := makers{}
	for _, d := range ds {
		for _, c := range d.Cons {
			if _, known := result[c.Name]; !known {
				result[c.Name] = maker{d, c}
			}
		}
	}
	return result
}

// instance is a type, with what its variables stand for. These are not put in their places, because the type could get too great.
type instance struct {
	typ api.Type
	of  map[string]instance
}

func (t instance) isVar() bool { return strings.HasPrefix(t.typ.Name, "'") }

// within returns a type in which the variables stand for the same.
func (t instance) within(u api.Type) instance {
	if s, ok := t.of[u.Name]; ok {
		return s
	}
	return instance{u, t.of}
}

func (l makers) has(t instance, v api.Value) bool {
	switch {
	case t.isVar():
		return true
	case isInteger(v):
		return t.typ.Name == integer
	case v.Con == tuple:
		return t.typ.Name == tuple && l.have(t, t.typ.Args, v.Args)
	}
	m, ok := l[v.Con]
	if !ok || t.typ.Name != m.data.Name || len(t.typ.Args) != len(m.data.Vars) {
		return false
	}
	fields := instance{of: map[string]instance{}}
	for i, name := range m.data.Vars {
		fields.of[name] = t.within(t.typ.Args[i])
	}
	return l.have(fields, m.con.Args, v.Args)
}

// have reports whether values have the types at their places, in which variables stand for what they do in a type.
func (l makers) have(in instance, types []api.Type, values []api.Value) bool {
	if len(types) != len(values) {
		return false
	}
	for i, v := range values {
		if !l.has(in.within(types[i]), v) {
			return false
		}
	}
	return true
}

// inputsOf returns the inputs of a program whose form is right.
func inputsOf(p api.Program) (result []api.Named) {
	for _, d := range p.Decls {
		if d.Kind == api.DInput {
			result = append(result, api.Named{Name: d.Name, Scheme: api.Scheme{Type: copyType(d.Type)}})
		}
	}
	return result
}

func copyType(t api.Type) api.Type {
	result := api.Type{Name: t.Name}
	for _, a := range t.Args {
		result.Args = append(result.Args, copyType(a))
	}
	return result
}

func areInputs(datas []api.Data, inputs []api.Named, in []api.NamedValue) bool {
	if len(inputs) != len(in) {
		return false
	}
	for i, n := range inputs {
		if n.Name != in[i].Name || !Has(datas, n.Scheme.Type, in[i].Value) {
			return false
		}
	}
	return true
}
