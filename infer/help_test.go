package infer

import (
	"slices"
	"strings"
	"testing"

	"restitch/api"
	"restitch/syntax"
)

// typ reads a type. Tests that need one that is not valid build it themselves.
func typ(text string) api.Type {
	t, _, e := syntax.ParseType(text)
	if e != api.OK {
		panic("no type: " + text)
	}
	return t
}

func typs(texts ...string) (result []api.Type) {
	for _, text := range texts {
		result = append(result, typ(text))
	}
	return result
}

// show writes a type as it is read.
func show(t api.Type) string {
	text, e := syntax.PrintType(t)
	if e != api.OK {
		return "a type that cannot be printed"
	}
	return strings.NewReplacer("( ", "(", " )", ")", " ,", ",").Replace(text)
}

func showBinds(l []api.Bind) string {
	var texts []string
	for _, b := range l {
		texts = append(texts, b.Var+": "+show(b.Type))
	}
	return strings.Join(texts, "; ")
}

// binds reads what showBinds writes.
func binds(text string) (result []api.Bind) {
	if text == "" {
		return nil
	}
	for _, one := range strings.Split(text, "; ") {
		v, t, _ := strings.Cut(one, ": ")
		result = append(result, api.Bind{Var: v, Type: typ(t)})
	}
	return result
}

// scheme reads a scheme: its variables, a dot, its type.
func scheme(text string) api.Scheme {
	vars, t, _ := strings.Cut(text, ". ")
	return api.Scheme{Vars: strings.Fields(vars), Type: typ(t)}
}

func showScheme(s api.Scheme) string { return strings.Join(s.Vars, " ") + ". " + show(s.Type) }

func closed(text string) api.Scheme {
	s, e := Close(typ(text))
	if e != api.OK {
		panic("no scheme: " + text)
	}
	return s
}

func program(text string) api.Program {
	p, at, e := syntax.Parse(text)
	if e != api.OK {
		panic("no program at " + text[at:])
	}
	return p
}

func showNamed(l []api.Named) string {
	var texts []string
	for _, n := range l {
		texts = append(texts, n.Name+": "+show(n.Scheme.Type))
	}
	return strings.Join(texts, "; ")
}

func isZero(at api.Blame) bool { return at.Decl == 0 && at.Fun == 0 && len(at.Path) == 0 }

func sameBlame(a, b api.Blame) bool {
	return a.Decl == b.Decl && a.Fun == b.Fun && slices.Equal(a.Path, b.Path)
}

// chain returns a type of some depth, which has as many types.
func chain(deep int) api.Type {
	t := api.Type{Name: "'a"}
	for range deep - 1 {
		t = api.Type{Name: "List", Args: []api.Type{t}}
	}
	return t
}

// broad returns a type with as many types as are asked for, all of whose leaves are made by a function.
func broad(size int, leaf func() api.Type) api.Type {
	if size <= 1 {
		return leaf()
	}
	if size <= 17 {
		t := api.Type{Name: "D"}
		for range size - 1 {
			t.Args = append(t.Args, leaf())
		}
		return t
	}
	half := (size - 1) / 2
	return api.Type{Name: "->", Args: []api.Type{broad(half, leaf), broad(size-1-half, leaf)}}
}

func theInt() api.Type { return api.Type{Name: "Int"} }

// vast returns a type that has 2 to the power of its depth types, or, with a great depth, an endless number of them.
func vast(deep int) api.Type {
	t := theInt()
	for range deep {
		t = api.Type{Name: "->", Args: []api.Type{t, t}}
	}
	return t
}

// endless returns a type that is within itself.
func endless() api.Type {
	t := api.Type{Name: "->", Args: make([]api.Type, 2)}
	t.Args[0], t.Args[1] = theInt(), t
	return t
}

// untypes are types that are not valid.
func untypes() []api.Type {
	con := func(name string, n int) api.Type {
		t := api.Type{Name: name}
		for range n {
			t.Args = append(t.Args, theInt())
		}
		return t
	}
	list := []api.Type{
		{}, con("", 1), con("x", 0), con("int", 0), con("'A", 0), con("'", 0), con("'a'1", 0), con("fn", 0), con("=>", 2),
		con("'a", 1), con("Int", 1), con("->", 0), con("->", 1), con("->", 3), con(",", 0), con(",", 1), con(",", 5), con("List", 17),
		con("List", 100000), con("L"+strings.Repeat("i", 24), 0), con("'"+strings.Repeat("i", 24), 0), con("List 'a", 0), con("List ", 0),
		chain(101), broad(2001, theInt), vast(11), vast(200), endless(),
	}
	for _, t := range slices.Clone(list) {
		list = append(list, api.Type{Name: ",", Args: []api.Type{theInt(), {Name: "List", Args: []api.Type{t}}}})
	}
	return list
}

func errs(t *testing.T, what any, got, want api.Errno) {
	t.Helper()
	if got != want {
		t.Errorf("%v: error %d, expected %d", what, got, want)
	}
}
