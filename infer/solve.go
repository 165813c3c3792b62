package infer

import "restitch/api"

// node is a type that is being solved: a variable (without a name), or a type with its Args. All nodes of a class are equal.
type node struct {
	name   string
	args   []*node
	number int   // of a variable: how many there were before it
	link   *node // leads to the node that stands for the class; nil if this is the one
	seen   int   // see cycles
}

func (n *node) isVar() bool { return n.name == "" }

// class returns the node that stands for the class of a node.
func class(n *node) *node {
	root := n
	for root.link != nil {
		root = root.link
	}
	for n != root {
		n, n.link = n.link, root
	}
	return root
}

// solver has equations, and leaves by fail when they have no solution.
type solver struct {
	vars    int     // how many variables there are
	changed []*node // classes that got a type, or became one with another that has one, and have not been looked at for cycles
	turn    int     // see cycles
	fail    func(e api.Errno)
}

func (s *solver) fresh() *node {
	s.vars++
	return &node{number: s.vars - 1}
}

// node returns a valid type as a node; its variables are found in a map, and those that are not there yet are added to it.
func (s *solver) node(t api.Type, vars map[string]*node) *node {
	if isVar(t) {
		if vars[t.Name] == nil {
			vars[t.Name] = s.fresh()
		}
		return vars[t.Name]
	}
	n := &node{name: t.Name}
	for _, a := range t.Args {
		n.args = append(n.args, s.node(a, vars))
	}
	return n
}

// equal makes two nodes equal. It ends even if there are cycles: each call that goes on has one class less.
func (s *solver) equal(a, b *node) {
	a, b = class(a), class(b)
	if a == b {
		return
	}
	if b.isVar() && (!a.isVar() || a.number < b.number) {
		a, b = b, a
	}
	if !a.isVar() && (a.name != b.name || len(a.args) != len(b.args)) {
		s.fail(api.ErrClash)
	}
	a.link = b
	if b.isVar() {
		return
	}
	s.changed = append(s.changed, b)
	for i := range a.args {
		s.equal(a.args[i], b.args[i])
	}
}

// cycles looks for a type within itself. A cycle that is new goes through a class that was changed.
func (s *solver) cycles() {
	// A node that is being gone through has the last odd number as seen, one that has been the even one behind it.
	s.turn += 2
	open, done := s.turn-1, s.turn
	var visit func(n *node)
	visit = func(n *node) {
		n = class(n)
		switch n.seen {
		case open:
			s.fail(api.ErrCycle)
		case done:
			return
		}
		n.seen = open
		for _, a := range n.args {
			visit(a)
		}
		n.seen = done
	}
	for _, n := range s.changed {
		visit(n)
	}
	s.changed = s.changed[:0]
}

// read returns the type of a node that is in no cycle, with names for the variables by their numbers.
func read(n *node, name func(number int) string) api.Type {
	g := &growth{}
	var made func(n *node, deep int) api.Type
	made = func(n *node, deep int) api.Type {
		g.add(deep)
		n = class(n)
		if n.isVar() {
			return api.Type{Name: name(n.number)}
		}
		result := api.Type{Name: n.name}
		for _, a := range n.args {
			result.Args = append(result.Args, made(a, deep+1))
		}
		return result
	}
	return made(n, 1)
}

// solve returns the solved form of a list of valid types.
func solve(l []api.Type) []api.Bind {
	s := &solver{fail: func(e api.Errno) { panic(wrong{e: e}) }}
	order := varsOf(l...)
	vars := map[string]*node{}
	for _, v := range order {
		vars[v] = s.fresh()
	}
	for i := range l {
		s.equal(s.node(l[0], vars), s.node(l[i], vars))
	}
	s.cycles()
	var binds []api.Bind
	for _, v := range order {
		if n := vars[v]; class(n) != n {
			binds = append(binds, api.Bind{Var: v, Type: read(n, func(number int) string { return order[number] })})
		}
	}
	return binds
}
