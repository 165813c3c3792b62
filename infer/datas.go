package infer

import (
	"slices"

	"restitch/api"
)

// rules checks data types and names; it leaves at the place where it is.
type rules struct {
	place
	counts map[string]int  // how many Args the types of a program have
	used   map[string]bool // names that are declared already
}

func newRules() *rules { return &rules{counts: map[string]int{}, used: map[string]bool{}} }

// declare takes a name, which no other one may have.
func (r *rules) declare(name string) {
	if r.used[name] {
		r.fail(api.ErrTwice)
	}
	r.used[name] = true
}

// dataTypes returns the data types of a program whose form is right.
func dataTypes(p api.Program) []api.Data {
	list := []api.Data{{Name: boolean, Cons: []api.Con{{Name: "False"}, {Name: "True"}}}}
	for _, d := range p.Decls {
		if d.Kind == api.DData {
			list = append(list, copyData(d.Data))
		}
	}
	r, cons := typeRules(list), newRules()
	r.declare(integer)
	r.declare(boolean)
	cons.declare("False")
	cons.declare("True")
	for i, d := range p.Decls {
		r.enter(i)
		cons.enter(i)
		if d.Kind == api.DData {
			r.data(d.Data, cons)
		}
	}
	return list
}

// typeRules returns the rules that know some data types: of two with the same name, which are an error later, the first one.
func typeRules(datas []api.Data) *rules {
	r := newRules()
	r.counts[integer] = 0
	for _, d := range datas {
		if _, known := r.counts[d.Name]; !known {
			r.counts[d.Name] = len(d.Vars)
		}
	}
	return r
}

// data checks a declaration, with the names of constructors that are declared before it.
func (r *rules) data(d api.Data, cons *rules) {
	r.declare(d.Name)
	for i, v := range d.Vars {
		if slices.Contains(d.Vars[:i], v) {
			r.fail(api.ErrTwice)
		}
	}
	for _, c := range d.Cons {
		cons.declare(c.Name)
		for _, t := range c.Args {
			r.known(t, d.Vars)
		}
		if slices.ContainsFunc(c.Args, isWide) {
			r.fail(api.ErrWide)
		}
	}
}

// known checks that each type in a type is known, with as many Args as it has; of variables just some are known.
func (r *rules) known(t api.Type, vars []string) {
	for u := range types(t) {
		count, ok := r.counts[u.Name]
		switch {
		case isVar(u) && !slices.Contains(vars, u.Name), isData(u) && !ok:
			r.fail(api.ErrName)
		case isData(u) && len(u.Args) != count:
			r.fail(api.ErrCount)
		}
	}
}

// isWide reports whether a data type in a type has an Arg that is no variable, and has some.
func isWide(t api.Type) bool {
	grows := func(a api.Type) bool { return !isVar(a) && hasVars(a) }
	return isData(t) && slices.ContainsFunc(t.Args, grows) || slices.ContainsFunc(t.Args, isWide)
}

// input checks the type of an input.
func (r *rules) input(t api.Type, datas map[string]api.Data) {
	if !isData(t) {
		r.fail(api.ErrInType)
	}
	r.known(t, nil)
	if t.Name == integer {
		return
	}
	d := datas[t.Name]
	if d.Name == boolean || len(d.Vars) > 0 {
		r.fail(api.ErrInType)
	}
	for _, c := range d.Cons {
		if !all(c.Args, func(f api.Type) bool { return f.Name == integer || f.Name == d.Name }) {
			r.fail(api.ErrInType)
		}
	}
}

func copyData(d api.Data) api.Data {
	result := api.Data{Name: d.Name, Vars: slices.Clone(d.Vars)}
	for _, c := range d.Cons {
		con := api.Con{Name: c.Name}
		for _, t := range c.Args {
			con.Args = append(con.Args, copyType(t))
		}
		result.Cons = append(result.Cons, con)
	}
	return result
}

// byName returns data types that have different names by these.
func byName(datas []api.Data) map[string]api.Data {
	result := map[string]api.Data{}
	for _, d := range datas {
		result[d.Name] = d
	}
	return result
}

// hasArrow reports whether an arrow is in a type, or in a field of a data type that is reached from it.
func hasArrow(t api.Type, datas map[string]api.Data) bool {
	reached := map[string]bool{}
	var has func(t api.Type) bool
	has = func(t api.Type) bool {
		if t.Name == arrow || slices.ContainsFunc(t.Args, has) {
			return true
		}
		if reached[t.Name] {
			return false
		}
		reached[t.Name] = true
		return slices.ContainsFunc(datas[t.Name].Cons, func(c api.Con) bool { return slices.ContainsFunc(c.Args, has) })
	}
	return has(t)
}
