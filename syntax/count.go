package syntax

import "restitch/api"

// forest is a list of trees: those of a program, or those within a node.
type forest struct {
	exprs []api.Expr
	pats  []api.Pat
	types []api.Type
}

// treesOf returns the expressions and types of a program: those of the fields that its declarations have by their kinds.
func treesOf(p api.Program) forest {
	var f forest
	for _, d := range p.Decls {
		switch d.Kind {
		case api.DData:
			for _, c := range d.Data.Cons {
				f.types = append(f.types, c.Args...)
			}
		case api.DInput:
			f.types = append(f.types, d.Type)
		case api.DFuns:
			for _, g := range d.Funs {
				f.exprs = append(f.exprs, g.Body)
			}
		case api.DVal, api.DOutput:
			f.exprs = append(f.exprs, d.Body)
		}
	}
	return f
}

// within yields, for each tree of a forest, what is next within its root.
func (f forest) within(yield func(forest) bool) {
	for _, e := range f.exprs {
		if !yield(forest{exprs: e.Args, pats: e.Pats}) {
			return
		}
	}
	for _, p := range f.pats {
		if !yield(forest{pats: p.Args}) {
			return
		}
	}
	for _, t := range f.types {
		if !yield(forest{types: t.Args}) {
			return
		}
	}
}

// lists tells which memory the lists of a forest are, so that a forest that is met again is known.
type lists struct {
	expr    *api.Expr
	pat     *api.Pat
	typ     *api.Type
	lengths [3]int
}

func (f forest) lists() lists {
	lengths := [3]int{len(f.exprs), len(f.pats), len(f.types)}
	return lists{first(f.exprs), first(f.pats), first(f.types), lengths}
}

func first[T any](list []T) *T {
	if len(list) == 0 {
		return nil
	}
	return &list[0]
}

// depth returns how deep the deepest tree is, MaxDeep + 1 if it is deeper.
func (f forest) depth() int {
	// Lists may be shared by very many nodes, or even contain themselves: each is gone through once.
	known := map[lists]int{}
	var depth func(f forest, most int) int
	depth = func(f forest, most int) int {
		l := f.lists()
		if d, ok := known[l]; ok {
			return min(d, most+1)
		}
		deepest := 0
		for inner := range f.within {
			if most == 0 {
				return 1
			}
			d := depth(inner, most-1) + 1
			if d > most {
				return d
			}
			deepest = max(deepest, d)
		}
		known[l] = deepest
		return deepest
	}
	return depth(f, api.MaxDeep)
}

// size returns the number of the nodes that are not too deep, MaxNodes + 1 if there are more.
func (f forest) size() int {
	nodes := 0
	var count func(f forest, most int)
	count = func(f forest, most int) {
		for inner := range f.within {
			if most == 0 || nodes > api.MaxNodes {
				return
			}
			nodes++
			count(inner, most-1)
		}
	}
	count(f, api.MaxDeep)
	return nodes
}

// limits returns the error of trees that are too deep, or too many nodes.
func (f forest) limits() api.Errno {
	switch {
	case f.depth() > api.MaxDeep:
		return api.ErrDeep
	case f.size() > api.MaxNodes:
		return api.ErrLong
	}
	return api.OK
}

// checkTree returns the first error of a tree, which is the only one of a forest.
func checkTree[T any](tree T, f forest, is func(T) bool) api.Errno {
	if e := f.limits(); e != api.OK {
		return e
	}
	if !is(tree) {
		return api.ErrShape
	}
	return api.OK
}
