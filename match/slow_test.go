package match

import (
	"slices"

	"restitch/api"
	"restitch/lex"
)

// The functions of this file follow the document word by word, without regard to time.

func slowDataOf(ds []api.Data, name string) (api.Data, bool) {
	for _, d := range append([]api.Data{{Name: "Bool", Cons: []api.Con{{Name: "False"}, {Name: "True"}}}}, ds...) {
		if d.Name == name {
			return d, true
		}
	}
	return api.Data{}, false
}

func slowDepth(t api.Type) int {
	deepest := 0
	for _, a := range t.Args {
		deepest = max(deepest, slowDepth(a))
	}
	return deepest + 1
}

func slowVars(t api.Type) []string {
	var result []string
	if lex.IsVar(t.Name) {
		result = append(result, t.Name)
	}
	for _, a := range t.Args {
		result = append(result, slowVars(a)...)
	}
	return result
}

func slowFormed(ds []api.Data, t api.Type) bool {
	n, ok := len(t.Args), false
	if d, found := slowDataOf(ds, t.Name); found {
		ok = n == len(d.Vars)
	} else {
		ok = n == 0 && (t.Name == "Int" || lex.IsVar(t.Name)) || n == 2 && t.Name == "->" || n >= 2 && n <= 4 && t.Name == ","
	}
	for _, a := range t.Args {
		ok = ok && slowFormed(ds, a)
	}
	return ok
}

func slowType(ds []api.Data, t api.Type) bool { return slowFormed(ds, t) && slowDepth(t) <= 100 }

// slowRegular reports whether each Arg of a data type is a variable, or has none.
func slowRegular(ds []api.Data, t api.Type) bool {
	_, isData := slowDataOf(ds, t.Name)
	for _, a := range t.Args {
		if isData && !lex.IsVar(a.Name) && len(slowVars(a)) > 0 || !slowRegular(ds, a) {
			return false
		}
	}
	return true
}

func slowDatas(ds []api.Data) bool {
	names, cons := map[string]bool{"Int": true, "Bool": true}, map[string]bool{"False": true, "True": true}
	ok := len(ds) <= 60
	for _, d := range ds {
		ok = ok && lex.IsCon(d.Name) && !names[d.Name] && len(d.Cons) >= 1 && len(d.Cons) <= 16 && len(d.Vars) <= 16
		names[d.Name] = true
		for i, v := range d.Vars {
			ok = ok && lex.IsVar(v) && slices.Index(d.Vars, v) == i
		}
		for _, c := range d.Cons {
			ok = ok && lex.IsCon(c.Name) && !cons[c.Name] && len(c.Args) <= 16
			cons[c.Name] = true
			for _, t := range c.Args {
				ok = ok && slowType(ds, t) && slowRegular(ds, t)
				for _, v := range slowVars(t) {
					ok = ok && slices.Contains(d.Vars, v)
				}
			}
		}
	}
	return ok
}

func slowPut(t api.Type, vars []string, args []api.Type) api.Type {
	if i := slices.Index(vars, t.Name); i >= 0 {
		return args[i]
	}
	result := api.Type{Name: t.Name}
	for _, a := range t.Args {
		result.Args = append(result.Args, slowPut(a, vars, args))
	}
	return result
}

func slowCons(ds []api.Data, t api.Type) (result []api.Con) {
	if t.Name == "," {
		return []api.Con{{Name: ",", Args: t.Args}}
	}
	d, _ := slowDataOf(ds, t.Name)
	for _, c := range d.Cons {
		made := api.Con{Name: c.Name}
		for _, f := range c.Args {
			made.Args = append(made.Args, slowPut(f, d.Vars, t.Args))
		}
		result = append(result, made)
	}
	return result
}

func slowFits(ds []api.Data, t api.Type, p api.Pat) bool {
	switch p.Kind {
	case 1:
		return p.Name == "" && len(p.Args) == 0
	case 2:
		return lex.IsName(p.Name) && len(p.Args) == 0
	case 3:
		for _, c := range slowCons(ds, t) {
			if c.Name != p.Name || len(c.Args) != len(p.Args) {
				continue
			}
			ok := true
			for i, a := range p.Args {
				ok = ok && slowFits(ds, c.Args[i], a)
			}
			return ok
		}
	}
	return false
}

func slowNames(p api.Pat) (result []string) {
	if p.Kind == 2 {
		return []string{p.Name}
	}
	for _, a := range p.Args {
		result = append(result, slowNames(a)...)
	}
	return result
}

func slowPatDepth(p api.Pat) int {
	deepest := 0
	for _, a := range p.Args {
		deepest = max(deepest, slowPatDepth(a))
	}
	return deepest + 1
}

func slowCheckPat(ds []api.Data, t api.Type, p api.Pat) api.Errno {
	names := slowNames(p)
	slices.Sort(names)
	switch {
	case !slowDatas(ds) || !slowType(ds, t):
		return api.ErrData
	case slowPatDepth(p) > 100:
		return api.ErrDeep
	case !slowFits(ds, t, p):
		return api.ErrPat
	case len(slices.Compact(slices.Clone(names))) < len(names):
		return api.ErrVars
	}
	return api.OK
}

func slowOpen(p api.Pat) bool { return p.Kind == 1 || p.Kind == 2 }

func slowMeet(a, b api.Pat) bool {
	if slowOpen(a) || slowOpen(b) {
		return true
	}
	if a.Name != b.Name || len(a.Args) != len(b.Args) {
		return false
	}
	for i := range a.Args {
		if !slowMeet(a.Args[i], b.Args[i]) {
			return false
		}
	}
	return true
}

func slowWithin(a, b api.Pat) bool {
	if slowOpen(b) {
		return true
	}
	if slowOpen(a) || a.Name != b.Name || len(a.Args) != len(b.Args) {
		return false
	}
	for i := range a.Args {
		if !slowWithin(a.Args[i], b.Args[i]) {
			return false
		}
	}
	return true
}

// both returns the pattern of the values that match two patterns which meet.
func both(a, b api.Pat) api.Pat {
	if slowOpen(a) {
		return b
	}
	if slowOpen(b) {
		return a
	}
	result := con(a.Name)
	for i := range a.Args {
		result.Args = append(result.Args, both(a.Args[i], b.Args[i]))
	}
	return result
}

// less returns patterns that together match what is matched by a, and not by b.
func less(ds []api.Data, t api.Type, a, b api.Pat) (result []api.Pat) {
	if slowOpen(b) {
		return nil
	}
	for _, c := range slowCons(ds, t) {
		if !slowOpen(a) && a.Name != c.Name {
			continue
		}
		args := wilds(len(c.Args))
		if !slowOpen(a) {
			args = slices.Clone(a.Args)
		}
		if c.Name != b.Name {
			result = append(result, con(c.Name, args...))
			continue
		}
		for i := range args {
			for _, rest := range less(ds, c.Args[i], args[i], b.Args[i]) {
				one := slices.Clone(args)
				one[i] = rest
				result = append(result, con(c.Name, one...))
			}
			if !slowMeet(args[i], b.Args[i]) {
				break
			}
			args[i] = both(args[i], b.Args[i])
		}
	}
	return result
}

// slowRest returns patterns that together match what is matched by a pattern, and by none of a list.
func slowRest(ds []api.Data, t api.Type, from api.Pat, l []api.Pat) []api.Pat {
	rest := []api.Pat{from}
	for _, p := range l {
		var next []api.Pat
		for _, r := range rest {
			next = append(next, less(ds, t, r, p)...)
		}
		rest = next
	}
	return rest
}

func slowCovers(ds []api.Data, t api.Type, l []api.Pat) bool {
	return len(slowRest(ds, t, wild(), l)) == 0
}

func slowUseless(ds []api.Data, t api.Type, l []api.Pat) (result []int) {
	for i, p := range l {
		if len(slowRest(ds, t, p, l[:i])) == 0 {
			result = append(result, i)
		}
	}
	return result
}

// slowFitting reports whether a tree fits, with what is known, and the type at each place.
func slowFitting(ds []api.Data, t api.Type, l []api.Pat, tree api.Tree, known api.Pat) bool {
	if len(tree.Branches) == 0 {
		if len(tree.Path) > 0 || tree.Arm < 0 || tree.Arm >= len(l) || !slowWithin(known, l[tree.Arm]) {
			return false
		}
		for _, earlier := range l[:tree.Arm] {
			if slowMeet(known, earlier) {
				return false
			}
		}
		return true
	}
	cons, ok := slowTested(ds, t, known, tree.Path)
	if !ok || tree.Arm != 0 || len(cons) == 0 || len(cons) != len(tree.Branches) {
		return false
	}
	for i, b := range tree.Branches {
		if b.Con != cons[i].Name || !slowFitting(ds, t, l, b.Tree, slowKnown(known, tree.Path, cons[i])) {
			return false
		}
	}
	return true
}

// slowTested returns the constructors of the type at a place, if PWild is known there.
func slowTested(ds []api.Data, t api.Type, known api.Pat, path []int) ([]api.Con, bool) {
	if len(path) == 0 {
		return slowCons(ds, t), known.Kind == 1
	}
	i := path[0]
	if i < 0 || i >= len(known.Args) {
		return nil, false
	}
	for _, c := range slowCons(ds, t) {
		if c.Name == known.Name {
			return slowTested(ds, c.Args[i], known.Args[i], path[1:])
		}
	}
	return nil, false
}

func slowKnown(known api.Pat, path []int, c api.Con) api.Pat {
	if len(path) == 0 {
		return con(c.Name, wilds(len(c.Args))...)
	}
	known.Args = slices.Clone(known.Args)
	known.Args[path[0]] = slowKnown(known.Args[path[0]], path[1:], c)
	return known
}

func nodesOf(t api.Tree) int {
	count := 1
	for _, b := range t.Branches {
		count += nodesOf(b.Tree)
	}
	return count
}

func slowCheckTree(ds []api.Data, t api.Type, l []api.Pat, tree api.Tree) api.Errno {
	if nodesOf(tree) > api.MaxTree || !slowFitting(ds, t, l, tree, wild()) {
		return api.ErrTree
	}
	return api.OK
}
