package match

import (
	"restitch/api"
	"restitch/lex"
)

// count returns the number of nodes of some trees, one of more than most if there are more.
func count[T any](most int, within func(T) []T, trees ...T) int {
	nodes := 0
	for todo := [][]T{trees}; len(todo) > 0; {
		last := todo[len(todo)-1]
		todo = todo[:len(todo)-1]
		nodes += len(last)
		if nodes > most {
			break
		}
		for _, t := range last {
			if l := within(t); len(l) > 0 {
				todo = append(todo, l)
			}
		}
	}
	return nodes
}

func argsOf(p api.Pat) []api.Pat { return p.Args }

func areLong(l ...api.Pat) bool { return count(api.MaxPatNodes, argsOf, l...) > api.MaxPatNodes }

// deeper reports whether more than most patterns lie within each other.
func deeper(most int, l ...api.Pat) bool {
	level := [][]api.Pat{l}
	for range most {
		level = below(level)
	}
	return len(level) > 0
}

// memory tells which memory a list is.
type memory[T any] struct {
	first *T
	long  int
}

func memoryOf[T any](list []T) memory[T] { return memory[T]{&list[0], len(list)} }

// below returns the lists of Args of patterns. One that very many patterns share is there once.
func below(level [][]api.Pat) (result [][]api.Pat) {
	seen := map[memory[api.Pat]]bool{}
	for _, l := range level {
		for _, p := range l {
			if len(p.Args) == 0 {
				continue
			}
			if here := memoryOf(p.Args); !seen[here] {
				seen[here] = true
				result = append(result, p.Args)
			}
		}
	}
	return result
}

// seeker goes through a pattern in search of variables.
type seeker struct {
	path  []int
	none  map[spot]bool
	yield func(string, []int) bool
}

// spot is a pattern (as memory) at a depth.
type spot struct {
	at   *api.Pat
	deep int
}

// variables yields the names of the variables of any pattern, with their paths, which are changed afterwards.
func variables(p api.Pat) func(yield func(string, []int) bool) {
	return func(yield func(string, []int) bool) {
		s := &seeker{none: map[spot]bool{}, yield: yield}
		s.visit(&p, 1)
	}
}

// visit reports whether there are variables, and whether more are wanted. What has none is gone through once.
func (s *seeker) visit(p *api.Pat, deep int) (found, more bool) {
	if p.Kind == api.PVar {
		return true, s.yield(p.Name, s.path)
	}
	here := spot{p, deep}
	if p.Kind != api.PCon || deep == api.MaxDeep || s.none[here] {
		return false, true
	}
	for i := range p.Args {
		s.path = append(s.path, i)
		some, more := s.visit(&p.Args[i], deep+1)
		s.path = s.path[:len(s.path)-1]
		if !more {
			return true, false
		}
		found = found || some
	}
	if !found {
		s.none[here] = true
	}
	return found, true
}

// isOpen reports whether a valid pattern matches all values.
func isOpen(p api.Pat) bool { return p.Kind != api.PCon }

func areOpen(l []api.Pat) bool {
	for _, p := range l {
		if !isOpen(p) {
			return false
		}
	}
	return true
}

func wild() api.Pat { return api.Pat{Kind: api.PWild} }

func wilds(n int) (result []api.Pat) {
	for range n {
		result = append(result, wild())
	}
	return result
}

// asked is a pattern (as memory) that is to be one of a type.
type asked struct {
	at  *api.Pat
	typ int
}

// isPat reports whether a pattern is valid for a type, but for its depth and two variables of one name.
func (u *types) isPat(p *api.Pat, typ int, seen map[asked]bool) bool {
	here := asked{p, typ}
	switch {
	case seen[here]:
		return true
	case p.Kind == api.PWild:
		return p.Name == "" && len(p.Args) == 0
	case p.Kind == api.PVar:
		return lex.IsName(p.Name) && len(p.Args) == 0
	case p.Kind != api.PCon:
		return false
	}
	fields, ok := u.constructor(typ, p.Name)
	if !ok || len(fields) != len(p.Args) {
		return false
	}
	for i, f := range fields {
		if !u.isPat(&p.Args[i], f, seen) {
			return false
		}
	}
	seen[here] = true
	return true
}

func namesTwice(p api.Pat) bool {
	seen := map[string]bool{}
	for name := range variables(p) {
		if seen[name] {
			return true
		}
		seen[name] = true
	}
	return false
}

// checkPat returns the error of CheckPat but for ErrData.
func (u *types) checkPat(typ int, p api.Pat) api.Errno {
	switch {
	case deeper(api.MaxDeep, p):
		return api.ErrDeep
	case !u.isPat(&p, typ, map[asked]bool{}):
		return api.ErrPat
	case namesTwice(p):
		return api.ErrVars
	}
	return api.OK
}

// checkPats returns the error of CheckPats but for ErrData.
func (u *types) checkPats(typ int, l []api.Pat) api.Errno {
	switch {
	case len(l) > api.MaxPats || areLong(l...):
		return api.ErrLong
	case len(l) == 0:
		return api.ErrPat
	}
	for _, p := range l {
		if deeper(api.MaxPatDeep, p) {
			return api.ErrDeep
		}
		if e := u.checkPat(typ, p); e != api.OK {
			return e
		}
	}
	return api.OK
}

// problem is a list of patterns that is valid for a type.
type problem struct {
	*types
	typ  int
	list []api.Pat
}

// problemOf returns the problem of the arguments of a function.
func problemOf(ds []api.Data, t api.Type, l []api.Pat) (problem, api.Errno) {
	u, typ, e := typeFor(ds, t)
	if e != api.OK {
		return problem{}, e
	}
	return problem{u, typ, l}, u.checkPats(typ, l)
}
