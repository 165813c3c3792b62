package infer

import (
	"slices"
	"strconv"

	"restitch/api"
	"restitch/lex"
)

const (
	integer  = "Int"
	boolean  = "Bool"
	arrow    = "->"
	tuple    = ","
	maxTuple = 4
)

// wrong is what a call panics with that ends with an error.
type wrong struct {
	at api.Blame
	e  api.Errno
}

// attempt returns what a function returns, or the error with which it leaves.
func attempt[T any](do func() T) (result T, at api.Blame, e api.Errno) {
	defer func() {
		if w, ok := recover().(wrong); ok {
			var none T
			result, at, e = none, w.at, w.e
		}
	}()
	return do(), api.Blame{}, api.OK
}

func all[T any](list []T, is func(T) bool) bool {
	return !slices.ContainsFunc(list, func(x T) bool { return !is(x) })
}

func isVar(t api.Type) bool { return lex.IsVar(t.Name) }

// isData reports whether a valid type is a data type, or Int.
func isData(t api.Type) bool { return lex.IsCon(t.Name) }

func isValid(t api.Type) bool {
	nodes := 0
	var valid func(t api.Type, deep int) bool
	valid = func(t api.Type, deep int) bool {
		nodes++
		return nodes <= api.MaxNodes && deep <= api.MaxDeep && isFormed(t) &&
			all(t.Args, func(a api.Type) bool { return valid(a, deep+1) })
	}
	return valid(t, 1)
}

// isFormed looks at a type without those within it.
func isFormed(t api.Type) bool {
	switch n := len(t.Args); {
	case t.Name == integer || isVar(t):
		return n == 0
	case t.Name == arrow:
		return n == 2
	case t.Name == tuple:
		return n >= 2 && n <= maxTuple
	default:
		return isData(t) && n <= api.MaxArms
	}
}

// types yields a valid type and those within it, in the order of writing.
func types(t api.Type) func(yield func(api.Type) bool) {
	return func(yield func(api.Type) bool) {
		var visit func(t api.Type) bool
		visit = func(t api.Type) bool { return yield(t) && all(t.Args, visit) }
		visit(t)
	}
}

// varsOf returns the variables of valid types, in the order in which they occur first.
func varsOf(l ...api.Type) []string {
	var result []string
	seen := map[string]bool{}
	for _, t := range l {
		for u := range types(t) {
			if isVar(u) && !seen[u.Name] {
				seen[u.Name] = true
				result = append(result, u.Name)
			}
		}
	}
	return result
}

func hasVars(t api.Type) bool { return len(varsOf(t)) > 0 }

func copyType(t api.Type) api.Type { return replace(t, nil) }

// replace returns a copy of a valid type with other types in the place of variables.
func replace(t api.Type, of func(name string) (api.Type, bool)) api.Type {
	if of != nil && isVar(t) {
		if u, ok := of(t.Name); ok {
			return copyType(u)
		}
	}
	result := api.Type{Name: t.Name}
	for _, a := range t.Args {
		result.Args = append(result.Args, replace(a, of))
	}
	return result
}

func sameType(a, b api.Type) bool {
	return a.Name == b.Name && slices.EqualFunc(a.Args, b.Args, sameType)
}

// substitution returns the types of binds by their variables, and whether the binds are a substitution.
func substitution(l []api.Bind) (map[string]api.Type, bool) {
	if len(l) > api.MaxNodes {
		return nil, false
	}
	of := map[string]api.Type{}
	for _, b := range l {
		if _, twice := of[b.Var]; twice || !lex.IsVar(b.Var) || !isValid(b.Type) {
			return nil, false
		}
		of[b.Var] = b.Type
	}
	return of, true
}

// growth counts the types of a type that is being made, and leaves when it gets too great to be valid.
type growth struct{ types int }

func (g *growth) add(deep int) {
	g.types++
	if g.types > api.MaxNodes || deep > api.MaxDeep {
		panic(wrong{e: api.ErrWide})
	}
}

func apply(of map[string]api.Type, t api.Type) api.Type {
	g := &growth{}
	var put func(t api.Type, deep int, of map[string]api.Type) api.Type
	put = func(t api.Type, deep int, of map[string]api.Type) api.Type {
		if u, ok := of[t.Name]; ok {
			return put(u, deep, nil)
		}
		g.add(deep)
		result := api.Type{Name: t.Name}
		for _, a := range t.Args {
			result.Args = append(result.Args, put(a, deep+1, of))
		}
		return result
	}
	return put(t, 1, of)
}

// nameOf returns the k-th name of variables.
func nameOf(k int) string {
	name := "'" + string(rune('a'+k%26))
	if k >= 26 {
		name += strconv.Itoa(k / 26)
	}
	return name
}
