package match

import (
	"slices"

	"restitch/api"
)

// column is a place of a value that is not known yet: its type, and its path.
type column struct {
	typ  int
	path []int
}

// row is what an arm asks of the places that are not known.
type row struct {
	arm  int
	pats []api.Pat
}

// grid is what the arms ask that may still be chosen, with what is known of a value.
type grid struct {
	*types
	columns []column
	rows    []row
}

// start returns the grid of patterns, of which nothing is known.
func (q problem) start() grid {
	var rows []row
	for arm, p := range q.list {
		rows = append(rows, row{arm, []api.Pat{p}})
	}
	return grid{q.types, []column{{typ: q.typ}}, nil}.with(rows...)
}

// with returns the grid with other rows.
func (g grid) with(rows ...row) grid {
	g.rows = rows
	return g
}

// look hands the patterns of a column that ask for a constructor to a function.
func (g grid) look(i int, at func(api.Pat)) {
	for _, r := range g.rows {
		if !isOpen(r.pats[i]) {
			at(r.pats[i])
		}
	}
}

// names returns the names of the constructors that a column's patterns ask for.
func (g grid) names(i int) map[string]bool {
	names := map[string]bool{}
	g.look(i, func(p api.Pat) { names[p.Name] = true })
	return names
}

// narrowed returns the grid in which a constructor is known in a column.
func (g grid) narrowed(i int, m maker) grid {
	var rows []row
	for _, r := range g.rows {
		if args, ok := argsFor(r.pats[i], m); ok {
			rows = append(rows, row{r.arm, replaced(r.pats, i, args...)})
		}
	}
	var fields []column
	path := g.columns[i].path
	for k, f := range m.fields {
		fields = append(fields, column{f, append(path[:len(path):len(path)], k)})
	}
	return grid{g.types, replaced(g.columns, i, fields...), nil}.with(rows...)
}

// argsFor returns what a pattern asks of the fields of a constructor, if it can match it.
func argsFor(p api.Pat, m maker) ([]api.Pat, bool) {
	if isOpen(p) {
		return wilds(len(m.fields)), true
	}
	return p.Args, p.Name == m.name
}

// replaced returns a copy of a list with others in the place of an element.
func replaced[T any](list []T, i int, others ...T) []T {
	return append(append(list[:i:i], others...), list[i+1:]...)
}

// tries returns a column and some of its constructors: if there are values that no row matches, one of them has one of these constructors there. It returns no constructor if no row asks for one.
func (g grid) tries() (at int, cons []maker) {
	for i, c := range g.columns {
		names := g.names(i)
		if len(names) == 0 {
			continue
		}
		all := g.makers(c.typ)
		other := slices.IndexFunc(all, func(m maker) bool { return !names[m.name] })
		switch {
		case other >= 0:
			// No row is left with it that would not be left with any other constructor too.
			return i, all[other : other+1 : other+1]
		case len(all) == 1:
			return i, all
		case cons == nil:
			at, cons = i, all
		}
	}
	return at, cons
}

// witness returns patterns for the columns that no row meets.
func (g grid) witness() (found []api.Pat, ok bool) {
	if len(g.rows) == 0 {
		return wilds(len(g.columns)), true
	}
	i, cons := g.tries()
search:
	for _, m := range cons {
		rest := g.narrowed(i, m)
		for _, r := range rest.rows {
			if areOpen(r.pats) {
				continue search
			}
		}
		if pats, some := rest.witness(); some {
			found, ok = regrown(pats, i, m), true
			break search
		}
	}
	return found, ok
}

// regrown returns patterns with a constructor in the place of those for its fields.
func regrown(pats []api.Pat, i int, m maker) []api.Pat {
	end := i + len(m.fields)
	con := api.Pat{Kind: api.PCon, Name: m.name, Args: pats[i:end:end]}
	return append(append(pats[:i:i], con), pats[end:]...)
}

// along returns the grid in which all is known that the last row asks for, without this row.
func (g grid) along() grid {
	for {
		last := len(g.rows) - 1
		pats := g.rows[last].pats
		i := slices.IndexFunc(pats, func(p api.Pat) bool { return !isOpen(p) })
		if i < 0 {
			return g.with(g.rows[:last:last]...)
		}
		fields, _ := g.constructor(g.columns[i].typ, pats[i].Name)
		g = g.narrowed(i, maker{pats[i].Name, fields})
	}
}

// isUseless reports whether a pattern of a list is useless.
func (q problem) isUseless(arm int) bool {
	all := q.start()
	_, ok := all.with(all.rows[: arm+1 : arm+1]...).along().witness()
	return !ok
}

// open returns a pattern that meets none of the list.
func (q problem) open() (api.Pat, bool) {
	found, ok := q.start().witness()
	if !ok {
		return api.Pat{}, false
	}
	return found[0], true
}
