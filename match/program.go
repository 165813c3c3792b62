package match

import (
	"slices"

	"restitch/api"
)

// looker looks at the cases of a program, with their types.
type looker struct {
	*types
	left int // how many expressions and patterns may still be looked at
	path []int
}

// expr returns the error of the first case, to which the path then leads.
func (l *looker) expr(e api.Expr, x api.Typed) api.Errno {
	l.left -= 1 + count(api.MaxNodes, argsOf, e.Pats...)
	switch {
	case l.left < 0:
		return api.ErrLong
	case len(l.path) >= api.MaxDeep:
		return api.ErrDeep
	}
	if e.Kind == api.ECase {
		if wrong := l.arms(argAt(x, 0).Type, e.Pats); wrong != api.OK {
			return wrong
		}
	}
	for i, a := range e.Args {
		l.path = append(l.path, i)
		if wrong := l.expr(a, argAt(x, i)); wrong != api.OK {
			return wrong
		}
		l.path = l.path[:len(l.path)-1]
	}
	return api.OK
}

// argAt returns no types where a derivation has fewer of them than belong to the program.
func argAt(x api.Typed, i int) api.Typed {
	if i < len(x.Args) {
		return x.Args[i]
	}
	return api.Typed{}
}

// arms returns the error of the patterns of a case.
func (l *looker) arms(t api.Type, pats []api.Pat) api.Errno {
	if l.types == nil {
		return api.ErrData
	}
	typ, e := l.valid(t)
	if e != api.OK {
		return e
	}
	if e := l.checkPats(typ, pats); e != api.OK {
		return e
	}
	q := problem{l.types, typ, pats}
	if _, open := q.open(); open {
		return api.ErrOpen
	}
	for arm := range pats {
		if q.isUseless(arm) {
			return api.ErrIdle
		}
	}
	return api.OK
}

// checkCases returns the place and the error of the first case of a program.
func checkCases(p api.Program, d api.Derivation) (api.Blame, api.Errno) {
	l := &looker{left: api.MaxNodes}
	l.types, _ = typesOf(datasOf(p))
	bodies := api.Typed{Args: d.Bodies}
	next := 0
	for i, decl := range p.Decls {
		for k, body := range bodiesOf(decl) {
			if e := l.expr(body, argAt(argAt(bodies, next), 0)); e != api.OK {
				return api.Blame{Decl: i, Fun: k, Path: slices.Clone(l.path)}, e
			}
			next++
		}
	}
	return api.Blame{}, api.OK
}

func datasOf(p api.Program) (result []api.Data) {
	for _, d := range p.Decls {
		if d.Kind == api.DData {
			result = append(result, d.Data)
		}
	}
	return result
}

func bodiesOf(d api.Decl) (result []api.Expr) {
	switch d.Kind {
	case api.DFuns:
		for _, f := range d.Funs {
			result = append(result, f.Body)
		}
	case api.DVal, api.DOutput:
		result = append(result, d.Body)
	}
	return result
}
