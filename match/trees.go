package match

import (
	"slices"

	"restitch/api"
)

// builder makes a tree; it stops when this gets too large.
type builder struct {
	left   int
	choose func(g grid) int
}

// tree returns a tree for the patterns that may still be chosen, of which there is at least one.
func (b *builder) tree(g grid) (t api.Tree, ok bool) {
	b.left--
	first := g.rows[0]
	if b.left < 0 || areOpen(first.pats) {
		return api.Tree{Arm: first.arm}, b.left >= 0
	}
	i := b.choose(g)
	t.Path = slices.Clone(g.columns[i].path)
	for con, fields := range g.constructors(g.columns[i].typ) {
		rest, ok := b.tree(g.narrowed(i, maker{con, fields}))
		if !ok {
			return api.Tree{}, false
		}
		t.Branches = append(t.Branches, api.Branch{Con: con, Tree: rest})
	}
	return t, true
}

// least returns how to choose the column, of those in which the first row asks for a constructor, with the least cost.
func least(cost func(g grid, i int) int) func(g grid) int {
	return func(g grid) int {
		best, lowest := -1, 0
		for i, p := range g.rows[0].pats {
			if isOpen(p) {
				continue
			}
			if c := cost(g, i); best < 0 || c < lowest {
				best, lowest = i, c
			}
		}
		return best
	}
}

// choices returns costs of columns. None leads to the smallest tree for all lists: most often it is the column for which most rows ask.
func choices() []func(g grid, i int) int {
	return []func(g grid, i int) int{
		unasked,
		func(g grid, i int) int { return unasked(g, i)*len(g.columns) - i },
		nearness,
	}
}

// nearness is the lower, the nearer a column is to the whole.
func nearness(g grid, i int) int { return len(g.columns[i].path) }

// unasked is the lower, the more rows ask for a constructor in a column.
func unasked(g grid, i int) int {
	asking := 0
	g.look(i, func(api.Pat) { asking++ })
	return -asking
}

// tree returns the first tree that is not too large, of those that different choices lead to.
func (q problem) tree() (api.Tree, bool) {
	for _, cost := range choices() {
		b := &builder{left: api.MaxTree, choose: least(cost)}
		if t, ok := b.tree(q.start()); ok {
			return t, true
		}
	}
	return api.Tree{}, false
}

// treeChecker goes through a tree, with what is known at a place.
type treeChecker struct {
	problem
	left  int
	known api.Pat
}

// fits reports whether a tree fits, from a place on.
func (c *treeChecker) fits(t api.Tree) bool {
	c.left--
	if c.left < 0 {
		return false
	}
	if len(t.Branches) == 0 {
		return len(t.Path) == 0 && c.chooses(t.Arm)
	}
	at, typ := c.place(t.Path)
	if at == nil || at.Kind != api.PWild || t.Arm != 0 {
		return false
	}
	cons := c.makers(typ)
	if len(cons) != len(t.Branches) {
		return false
	}
	// What is known is put back behind a branch, as it is one tree for all places.
	defer func() { *at = wild() }()
	for i, b := range t.Branches {
		*at = api.Pat{Kind: api.PCon, Name: b.Con, Args: wilds(len(cons[i].fields))}
		if b.Con != cons[i].name || !c.fits(b.Tree) {
			return false
		}
	}
	return true
}

// chooses reports whether each value with what is known chooses an arm.
func (c *treeChecker) chooses(arm int) bool {
	return arm >= 0 && arm < len(c.list) && within(c.known, c.list[arm]) && !meetsAny(c.known, c.list[:arm:arm]...)
}

// place returns where what is known at a path stands, and its type.
func (c *treeChecker) place(path []int) (at *api.Pat, typ int) {
	at, typ = &c.known, c.typ
	for _, i := range path {
		if i < 0 || i >= len(at.Args) {
			return nil, 0
		}
		fields, _ := c.constructor(typ, at.Name)
		at, typ = &at.Args[i], fields[i]
	}
	return at, typ
}

// walk returns the leaf to which a value leads.
func walk(t api.Tree, v api.Value) (api.Tree, bool) {
	for range api.MaxDeep + 1 {
		if len(t.Branches) == 0 {
			return t, true
		}
		at, ok := part(v, t.Path)
		i := slices.IndexFunc(t.Branches, func(b api.Branch) bool { return b.Con == at.Con })
		if !ok || i < 0 {
			return api.Tree{}, false
		}
		t = t.Branches[i].Tree
	}
	return api.Tree{}, false
}
