package derive

import (
	"slices"
	"strings"
	"testing"

	"restitch/api"
	"restitch/infer"
	"restitch/syntax"
)

// library declares data types for the tests, in the declarations 0 to 3.
const library = "data List 'a = Nil | Cons 'a (List 'a); data Ints = End | Item Int Ints; data Pair 'a 'b = P 'a 'b; data Op = O (Int -> Int); "

// typ reads a type. Tests that need one that is not valid build it themselves.
func typ(text string) api.Type {
	t, _, e := syntax.ParseType(text)
	if e != api.OK {
		panic("no type: " + text)
	}
	return t
}

func typs(texts ...string) (result []api.Type) {
	for _, text := range texts {
		result = append(result, typ(text))
	}
	return result
}

func expr(text string) api.Expr {
	e, at, err := syntax.ParseExpr(text)
	if err != api.OK {
		panic("no expression at " + text[at:])
	}
	return e
}

func pat(text string) api.Pat {
	p, at, err := syntax.ParsePat(text)
	if err != api.OK {
		panic("no pattern at " + text[at:])
	}
	return p
}

func program(text string) api.Program {
	p, at, e := syntax.Parse(text)
	if e != api.OK {
		panic("no program at " + text[at:])
	}
	return p
}

func datas(text string) []api.Data {
	ds, _, e := infer.Datas(program(text))
	if e != api.OK {
		panic("no data types: " + text)
	}
	return ds
}

// env reads names with their schemes: "id: 'a. 'a -> 'a; n: . Int".
func env(text string) (result []api.Named) {
	if text == "" {
		return nil
	}
	for _, one := range strings.Split(text, "; ") {
		name, scheme, _ := strings.Cut(one, ": ")
		vars, t, _ := strings.Cut(scheme, ". ")
		result = append(result, api.Named{Name: name, Scheme: api.Scheme{Vars: strings.Fields(vars), Type: typ(t)}})
	}
	return result
}

// show writes a type as it is read, also one that is not valid.
func show(t api.Type) string {
	if text, e := syntax.PrintType(t); e == api.OK {
		return strings.NewReplacer("( ", "(", " )", ")", " ,", ",").Replace(text)
	}
	return "!" + key(t)
}

// key writes any type that ends.
func key(t api.Type) string {
	text := t.Name
	for _, a := range t.Args {
		text += "(" + key(a) + ")"
	}
	return text
}

func showAll(l []api.Type) string {
	var texts []string
	for _, t := range l {
		texts = append(texts, show(t))
	}
	return strings.Join(texts, ", ")
}

// showTyped writes the types of an expression: each with its Inst in braces and its Args in brackets.
func showTyped(x api.Typed) string {
	text := show(x.Type)
	if len(x.Inst) > 0 {
		text += " {" + showAll(x.Inst) + "}"
	}
	var args []string
	for _, a := range x.Args {
		args = append(args, showTyped(a))
	}
	if len(args) > 0 {
		text += " [" + strings.Join(args, "; ") + "]"
	}
	return text
}

func showNamed(l []api.Named) string {
	var texts []string
	for _, n := range l {
		texts = append(texts, n.Name+": "+strings.Join(append(slices.Clone(n.Scheme.Vars), ". "), " ")+show(n.Scheme.Type))
	}
	return strings.Join(texts, "; ")
}

func showDerivation(d api.Derivation) string {
	text := showNamed(d.Schemes)
	for _, x := range d.Bodies {
		text += "\n  " + showTyped(x)
	}
	return text
}

// ty makes the types of an expression.
func ty(text string, args ...api.Typed) api.Typed { return api.Typed{Type: typ(text), Args: args} }

// inst adds types in the place of variables.
func inst(x api.Typed, texts ...string) api.Typed {
	x.Inst = typs(texts...)
	return x
}

func derived(p api.Program) api.Derivation {
	d, e := Derive(p)
	if e != api.OK {
		text, _ := syntax.Print(p)
		panic("no derivation of " + text)
	}
	return d
}

func copyDerivation(d api.Derivation) (result api.Derivation) {
	for _, n := range d.Schemes {
		vars := slices.Clone(n.Scheme.Vars)
		result.Schemes = append(result.Schemes, api.Named{Name: n.Name, Scheme: api.Scheme{Vars: vars, Type: copyType(n.Scheme.Type)}})
	}
	for _, x := range d.Bodies {
		result.Bodies = append(result.Bodies, copyTyped(x))
	}
	return result
}

func copyTyped(x api.Typed) api.Typed {
	result := api.Typed{Type: copyType(x.Type)}
	for _, t := range x.Inst {
		result.Inst = append(result.Inst, copyType(t))
	}
	for _, a := range x.Args {
		result.Args = append(result.Args, copyTyped(a))
	}
	return result
}

func copyType(t api.Type) api.Type {
	result := api.Type{Name: t.Name}
	for _, a := range t.Args {
		result.Args = append(result.Args, copyType(a))
	}
	return result
}

func sameBlame(a, b api.Blame) bool {
	return a.Decl == b.Decl && a.Fun == b.Fun && slices.Equal(a.Path, b.Path)
}

func theInt() api.Type { return api.Type{Name: "Int"} }

// chain returns a type of some depth, with as many types.
func chain(deep int, end string) api.Type {
	t := api.Type{Name: end}
	for range deep - 1 {
		t = api.Type{Name: "List", Args: []api.Type{t}}
	}
	return t
}

// vast returns a type that has almost 2 to the power of its depth types, in little memory.
func vast(deep int) api.Type {
	t := theInt()
	for range deep - 1 {
		t = api.Type{Name: "->", Args: []api.Type{t, t}}
	}
	return t
}

// sized returns a type, of no data type but Bool and Int, that has a number of types. (There is none that has two.)
func sized(n int) api.Type {
	if n == 1 {
		return theInt()
	}
	if n == 4 {
		return api.Type{Name: ",", Args: typs("Int", "Bool", "Int")}
	}
	// Neither part gets two types.
	left := (n - 1) / 2
	if n == 5 || n == 6 {
		left = 1
	}
	return to(sized(left), sized(n-1-left))
}

// endless returns a type that is within itself, by way of some types.
func endless(long int) api.Type {
	t := api.Type{Name: "List", Args: make([]api.Type, 1)}
	u := t
	for range long - 1 {
		u = api.Type{Name: "List", Args: []api.Type{u}}
	}
	t.Args[0] = u
	return t
}

func errs(t *testing.T, what any, got, want api.Errno) {
	t.Helper()
	if got != want {
		t.Errorf("%v: error %d, expected %d", what, got, want)
	}
}
