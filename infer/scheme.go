package infer

import "restitch/api"

func isScheme(s api.Scheme) bool {
	if !isValid(s.Type) || len(s.Vars) > api.MaxNodes {
		return false
	}
	free := map[string]bool{}
	for _, v := range varsOf(s.Type) {
		free[v] = true
	}
	for _, v := range s.Vars {
		if !free[v] {
			return false
		}
		free[v] = false
	}
	return true
}

// isClosed reports whether a valid scheme has no free variables.
func isClosed(s api.Scheme) bool { return len(s.Vars) == len(varsOf(s.Type)) }

// rename returns the closed scheme of a valid type, with the names of variables in their order.
func rename(t api.Type) api.Scheme {
	var s api.Scheme
	names := map[string]string{}
	for k, v := range varsOf(t) {
		names[v] = nameOf(k)
		s.Vars = append(s.Vars, names[v])
	}
	s.Type = replace(t, func(name string) (api.Type, bool) { return api.Type{Name: names[name]}, true })
	return s
}

// match returns what makes a valid type of that of a valid scheme.
func match(s api.Scheme, t api.Type) ([]api.Bind, bool) {
	found := map[string]*api.Type{}
	for _, v := range s.Vars {
		found[v] = nil
	}
	var fits func(u, t api.Type) bool
	fits = func(u, t api.Type) bool {
		before, replaced := found[u.Name]
		switch {
		case replaced && before == nil:
			found[u.Name] = &t
			return true
		case replaced:
			return sameType(*before, t)
		case u.Name != t.Name || len(u.Args) != len(t.Args):
			return false
		}
		for i := range u.Args {
			if !fits(u.Args[i], t.Args[i]) {
				return false
			}
		}
		return true
	}
	if !fits(s.Type, t) {
		return nil, false
	}
	var binds []api.Bind
	for _, v := range s.Vars {
		binds = append(binds, api.Bind{Var: v, Type: copyType(*found[v])})
	}
	return binds, true
}
