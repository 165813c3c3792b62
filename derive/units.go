package derive

import (
	"slices"
	"strings"

	"restitch/api"
)

// wrong is what a call panics with that ends with an error.
type wrong struct {
	at api.Blame
	e  api.Errno
}

// attempt returns the error with which a function leaves.
func attempt(do func()) (at api.Blame, e api.Errno) {
	defer func() {
		if w, ok := recover().(wrong); ok {
			at, e = w.at, w.e
		}
	}()
	do()
	return api.Blame{}, api.OK
}

func some[T any](list []T, is func(T) bool) bool { return slices.ContainsFunc(list, is) }

func all[T any](list []T, is func(T) bool) bool {
	return !some(list, func(x T) bool { return !is(x) })
}

// isVar reports whether a valid type is a variable.
func isVar(t api.Type) bool { return strings.HasPrefix(t.Name, "'") }

// isData reports whether a valid type is a data type.
func isData(t api.Type) bool {
	return !isVar(t) && t.Name != integer && t.Name != arrow && t.Name != tuple
}

// unit is a declaration that has names.
type unit struct {
	api.Decl
	index  int       // of the declaration
	funs   []api.Fun // an input, a value or an output is one without Arg
	scheme int       // the index of its first scheme
	body   int       // the index of its first body
}

// units yields the declarations of a program that have names.
func units(p api.Program) func(yield func(unit) bool) {
	return func(yield func(unit) bool) {
		schemes, bodies := 0, 0
		for i, d := range p.Decls {
			if d.Kind == api.DData {
				continue
			}
			u := unit{Decl: d, index: i, funs: d.Funs, scheme: schemes, body: bodies}
			if d.Kind != api.DFuns {
				u.funs = []api.Fun{{Name: d.Name, Body: d.Body}}
			}
			if !yield(u) {
				return
			}
			schemes += len(u.funs)
			bodies += u.bodies()
		}
	}
}

// bodies returns how many bodies a declaration has.
func (u unit) bodies() int {
	if u.Kind == api.DInput {
		return 0
	}
	return len(u.funs)
}

// place is where a body is.
type place struct{ decl, fun int }

// bodies yields the bodies of a program with their places, in order.
func bodies(p api.Program) func(yield func(place, api.Expr) bool) {
	return func(yield func(place, api.Expr) bool) {
		for u := range units(p) {
			for k := range u.bodies() {
				if !yield(place{u.index, k}, u.funs[k].Body) {
					return
				}
			}
		}
	}
}
