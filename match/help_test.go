package match

import (
	"slices"
	"strconv"
	"strings"
	"testing"

	"restitch/api"
	"restitch/syntax"
)

// library declares data types for the tests.
const library = "data List 'a = Nil | Cons 'a (List 'a); data Tree = Leaf | Node Tree Int Tree; data Pair 'a 'b = Pr 'a 'b; " +
	"data Four = A | B | C | D; data Fun = F (Int -> Four); data Stream = S Stream; data Both 'a = Two ('a, 'a) | One 'a;"

func parse[T any](read func(string) (T, int, api.Errno), text string) T {
	result, at, e := read(text)
	if e != api.OK {
		panic("wrong text: " + text[at:])
	}
	return result
}

func typ(text string) api.Type { return parse(syntax.ParseType, text) }
func pat(text string) api.Pat  { return parse(syntax.ParsePat, text) }

func typs(texts ...string) (result []api.Type) {
	for _, text := range texts {
		result = append(result, typ(text))
	}
	return result
}

// pats reads patterns: "Nil; Cons x _".
func pats(text string) (result []api.Pat) {
	if text == "" {
		return nil
	}
	for _, one := range strings.Split(text, "; ") {
		result = append(result, pat(one))
	}
	return result
}

func program(text string) api.Program { return parse(syntax.Parse, text) }
func datas(text string) []api.Data    { return datasOf(program(text)) }

// value reads a value as an expression of constructors and numbers.
func value(text string) api.Value { return valueOf(parse(syntax.ParseExpr, text)) }

func valueOf(e api.Expr) api.Value {
	if e.Kind == api.ENum {
		return api.Value{Num: e.Num}
	}
	v := api.Value{Con: e.Name}
	for _, a := range e.Args {
		v.Args = append(v.Args, valueOf(a))
	}
	return v
}

func show(p api.Pat) string {
	if text, e := syntax.PrintPat(p); e == api.OK {
		return strings.NewReplacer("( ", "(", " )", ")", " ,", ",").Replace(text)
	}
	return "!" + strconv.Itoa(p.Kind) + p.Name
}

func showAll(l []api.Pat) string {
	var texts []string
	for _, p := range l {
		texts = append(texts, show(p))
	}
	return strings.Join(texts, "; ")
}

// showType writes any type that ends.
func showType(t api.Type) string {
	text := t.Name
	for _, a := range t.Args {
		text += "(" + showType(a) + ")"
	}
	return text
}

func showCons(l []api.Con) string {
	var texts []string
	for _, c := range l {
		texts = append(texts, showType(api.Type{Name: c.Name, Args: c.Args}))
	}
	return strings.Join(texts, " | ")
}

func showValue(v api.Value) string {
	if v.Con == "" && len(v.Args) == 0 {
		return strconv.Itoa(v.Num)
	}
	text := v.Con
	for _, a := range v.Args {
		text += "(" + showValue(a) + ")"
	}
	return text
}

func showBinds(l []api.NamedValue) string {
	var texts []string
	for _, b := range l {
		texts = append(texts, b.Name+" = "+showValue(b.Value))
	}
	return strings.Join(texts, ", ")
}

func showPath(path []int) string {
	var texts []string
	for _, i := range path {
		texts = append(texts, strconv.Itoa(i))
	}
	return strings.Join(texts, " ")
}

func showSlots(l []api.Slot) string {
	var texts []string
	for _, s := range l {
		texts = append(texts, s.Name+" at "+showPath(s.Path))
	}
	return strings.Join(texts, ", ")
}

// showTree writes a tree: "[1] Nil: 0 | Cons: 1".
func showTree(t api.Tree) string {
	if len(t.Branches) == 0 {
		return strconv.Itoa(t.Arm)
	}
	var texts []string
	for _, b := range t.Branches {
		texts = append(texts, b.Con+": "+showTree(b.Tree))
	}
	return "([" + showPath(t.Path) + "] " + strings.Join(texts, " | ") + ")"
}

func leaf(arm int) api.Tree { return api.Tree{Arm: arm} }

// test makes a tree for the constructors of a type, in order.
func test(path []int, cons string, trees ...api.Tree) api.Tree {
	t := api.Tree{Path: path}
	for i, con := range strings.Fields(cons) {
		t.Branches = append(t.Branches, api.Branch{Con: con, Tree: trees[i]})
	}
	return t
}

func copyPat(p api.Pat) api.Pat {
	p.Args = slices.Clone(p.Args)
	for i := range p.Args {
		p.Args[i] = copyPat(p.Args[i])
	}
	return p
}

func copyTree(t api.Tree) api.Tree {
	t.Path, t.Branches = slices.Clone(t.Path), slices.Clone(t.Branches)
	for i := range t.Branches {
		t.Branches[i].Tree = copyTree(t.Branches[i].Tree)
	}
	return t
}

func con(name string, args ...api.Pat) api.Pat {
	return api.Pat{Kind: api.PCon, Name: name, Args: args}
}
func named(name string) api.Pat { return api.Pat{Kind: api.PVar, Name: name} }

// nested returns a pattern of a list with a number of patterns within each other.
func nested(deep int) api.Pat {
	p := wild()
	for range deep - 1 {
		p = con("Cons", wild(), p)
	}
	return p
}

// chain returns a type with a number of types within each other.
func chain(deep int, end api.Type) api.Type {
	for range deep - 1 {
		end = api.Type{Name: "List", Args: []api.Type{end}}
	}
	return end
}

// vastType returns a type that has almost 2 to the power of its depth types, in little memory.
func vastType(deep int, end api.Type) api.Type {
	for range deep - 1 {
		end = api.Type{Name: ",", Args: []api.Type{end, end}}
	}
	return end
}

// vastPat is likewise a pattern.
func vastPat(deep int, end api.Pat) api.Pat {
	for range deep - 1 {
		end = con(",", end, end)
	}
	return end
}

// endlessType returns a type within itself.
func endlessType() api.Type {
	t := api.Type{Name: ",", Args: make([]api.Type, 2)}
	t.Args[0], t.Args[1] = t, t
	return t
}

func endlessPat(name string) api.Pat {
	p := con(name, wild(), wild())
	p.Args[0], p.Args[1] = p, p
	return p
}

func endlessValue() api.Value {
	v := api.Value{Con: ",", Args: make([]api.Value, 2)}
	v.Args[0], v.Args[1] = v, v
	return v
}

// longList returns the value of a list with some elements.
func longList(n int) api.Value {
	v := api.Value{Con: "Nil"}
	for range n {
		v = api.Value{Con: "Cons", Args: []api.Value{{Num: 1}, v}}
	}
	return v
}

func errs(t *testing.T, what any, got, want api.Errno) {
	t.Helper()
	if got != want {
		t.Errorf("%v: error %d, expected %d", what, got, want)
	}
}

func same(t *testing.T, what any, got, want string) {
	t.Helper()
	if got != want {
		t.Errorf("%v: %s, expected %s", what, got, want)
	}
}
