package infer

import (
	"slices"
	"strings"

	"restitch/api"
)

// slow is a slow reading of what a solution is: it keeps sets of equal types, each with a number, and joins them until nothing changes.
type slow struct {
	types []api.Type
	set   map[string]int // by how a type is written
	sets  map[int][]api.Type
	order []string // the variables, in the order in which they occur first
}

func newSlow() *slow { return &slow{set: map[string]int{}, sets: map[int][]api.Type{}} }

// key writes a type.
func key(t api.Type) string {
	text := t.Name
	for _, a := range t.Args {
		text += "(" + key(a) + ")"
	}
	return text
}

func isVarName(name string) bool { return strings.HasPrefix(name, "'") }

// find returns the number of the set that a type is in; a type that is new gets a set, and so do those within it.
func (s *slow) find(t api.Type) int {
	k := key(t)
	if n, ok := s.set[k]; ok {
		return n
	}
	s.set[k] = len(s.types)
	s.sets[len(s.types)] = []api.Type{t}
	s.types = append(s.types, t)
	if isVarName(t.Name) {
		s.order = append(s.order, t.Name)
	}
	for _, a := range t.Args {
		s.find(a)
	}
	return s.set[k]
}

func (s *slow) join(a, b api.Type) bool {
	i, j := s.find(a), s.find(b)
	if i == j {
		return false
	}
	for _, t := range s.sets[j] {
		s.set[key(t)] = i
	}
	s.sets[i] = append(s.sets[i], s.sets[j]...)
	delete(s.sets, j)
	return true
}

// members returns the types of the set of a type: those that are variables, and those that are not.
func (s *slow) members(t api.Type) (vars []string, whole []api.Type) {
	for _, u := range s.sets[s.find(t)] {
		if isVarName(u.Name) {
			vars = append(vars, u.Name)
		} else {
			whole = append(whole, u)
		}
	}
	return vars, whole
}

// close joins the sets of Args of equal types until nothing changes; it returns whether there is no clash.
func (s *slow) close() bool {
	for changed := true; changed; {
		changed = false
		for _, t := range s.types {
			_, whole := s.members(t)
			for _, u := range whole {
				if u.Name != whole[0].Name || len(u.Args) != len(whole[0].Args) {
					return false
				}
				for i := range u.Args {
					changed = s.join(u.Args[i], whole[0].Args[i]) || changed
				}
			}
		}
	}
	return true
}

// full returns a type in which all variables are replaced as the solved form has them, and whether no type is within itself.
func (s *slow) full(t api.Type, left int) (api.Type, bool) {
	if left < 0 {
		return t, false
	}
	vars, whole := s.members(t)
	if len(whole) == 0 {
		i := slices.IndexFunc(s.order, func(v string) bool { return slices.Contains(vars, v) })
		return api.Type{Name: s.order[i]}, true
	}
	result := api.Type{Name: whole[0].Name}
	for _, a := range whole[0].Args {
		b, ok := s.full(a, left-1)
		if !ok {
			return t, false
		}
		result.Args = append(result.Args, b)
	}
	return result, true
}

// slowSolve is Solve by the slow reading, for types that do not get too great.
func slowSolve(l []api.Type) ([]api.Bind, api.Errno) {
	s := newSlow()
	for _, t := range l {
		s.find(t)
	}
	for _, t := range l {
		s.join(l[0], t)
	}
	return s.binds()
}

// check returns why there is no solution, if there is none.
func (s *slow) check() api.Errno {
	if !s.close() {
		return api.ErrClash
	}
	for _, t := range s.types {
		if _, ok := s.full(t, len(s.types)); !ok {
			return api.ErrCycle
		}
	}
	return api.OK
}

func (s *slow) binds() ([]api.Bind, api.Errno) {
	if e := s.check(); e != api.OK {
		return nil, e
	}
	var result []api.Bind
	for _, v := range s.order {
		u, _ := s.full(api.Type{Name: v}, len(s.types))
		if u.Name != v {
			result = append(result, api.Bind{Var: v, Type: u})
		}
	}
	return result, api.OK
}
