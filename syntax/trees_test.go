package syntax

import (
	"fmt"
	"math/rand/v2"
	"strings"

	"restitch/api"
	"restitch/lex"
)

// longName is a name that is as long as a name may be.
var longName = strings.Repeat("n", api.MaxName)

func num(n int) api.Expr { return api.Expr{Kind: api.ENum, Num: n} }

func ref(name string) api.Expr { return api.Expr{Kind: api.EVar, Name: name} }

func con(name string, args ...api.Expr) api.Expr {
	return api.Expr{Kind: api.ECon, Name: name, Args: args}
}

func app(f, x api.Expr) api.Expr { return api.Expr{Kind: api.EApp, Args: []api.Expr{f, x}} }

func fn(arg string, body api.Expr) api.Expr {
	return api.Expr{Kind: api.EFn, Arg: arg, Args: []api.Expr{body}}
}

func let(name string, is, rest api.Expr) api.Expr {
	return api.Expr{Kind: api.ELet, Name: name, Args: []api.Expr{is, rest}}
}

func rec(name, arg string, body, rest api.Expr) api.Expr {
	return api.Expr{Kind: api.ERec, Name: name, Arg: arg, Args: []api.Expr{body, rest}}
}

func cases(pats []api.Pat, args ...api.Expr) api.Expr {
	return api.Expr{Kind: api.ECase, Pats: pats, Args: args}
}

func choice(a, b, c api.Expr) api.Expr {
	return cases([]api.Pat{match("True"), match("False")}, a, b, c)
}

func op(sign string, a, b api.Expr) api.Expr {
	return api.Expr{Kind: api.EOp, Name: sign, Args: []api.Expr{a, b}}
}

func wild() api.Pat { return api.Pat{Kind: api.PWild} }

func bound(name string) api.Pat { return api.Pat{Kind: api.PVar, Name: name} }

func match(name string, args ...api.Pat) api.Pat {
	return api.Pat{Kind: api.PCon, Name: name, Args: args}
}

func typ(name string, args ...api.Type) api.Type { return api.Type{Name: name, Args: args} }

func arrow(from, to api.Type) api.Type { return typ("->", from, to) }

func val(name string, body api.Expr) api.Decl {
	return api.Decl{Kind: api.DVal, Name: name, Body: body}
}

func output(name string, body api.Expr) api.Decl {
	return api.Decl{Kind: api.DOutput, Name: name, Body: body}
}

func input(name string, t api.Type) api.Decl {
	return api.Decl{Kind: api.DInput, Name: name, Type: t}
}

func funs(list ...api.Fun) api.Decl { return api.Decl{Kind: api.DFuns, Funs: list} }

func data(name string, vars []string, cons ...api.Con) api.Decl {
	return api.Decl{Kind: api.DData, Data: api.Data{Name: name, Vars: vars, Cons: cons}}
}

func program(list ...api.Decl) api.Program { return api.Program{Decls: list} }

// same reports whether two trees are equal, nil and empty lists being the same.
func same(a, b any) bool { return fmt.Sprintf("%+q", a) == fmt.Sprintf("%+q", b) }

// repeat makes a tree deeper, again and again.
func repeat[T any](n int, x T, deeper func(T) T) T {
	for range n {
		x = deeper(x)
	}
	return x
}

// times returns n copies of a tree.
func times[T any](n int, x T) []T {
	var list []T
	for range n {
		list = append(list, x)
	}
	return list
}

// maker makes random trees that are well formed.
type maker struct{ *rand.Rand }

func newMaker(seed uint64) maker { return maker{rand.New(rand.NewPCG(seed, 7))} }

func (m maker) pick(words string) string {
	list := strings.Fields(words)
	return list[m.IntN(len(list))]
}

func (m maker) name() string { return m.pick("x y f g a'1 in'2 lett " + longName) }

func (m maker) con() string { return m.pick("A Cons Nil True False Int B'3 Of") }

func (m maker) typ(deep int) api.Type {
	if deep <= 0 {
		return typ(m.pick("'a 'b 'in Int List A'1"))
	}
	switch m.IntN(5) {
	case 0:
		return arrow(m.typ(deep-1), m.typ(deep-1))
	case 1:
		return typ(",", some(m, 2, 4, deep, m.typ)...)
	case 2, 3:
		return typ(m.con(), some(m, 0, 3, deep, m.typ)...)
	}
	return m.typ(0)
}

func (m maker) pat(deep int) api.Pat {
	if deep <= 0 {
		return []api.Pat{wild(), bound(m.name()), match(m.con())}[m.IntN(3)]
	}
	switch m.IntN(4) {
	case 0:
		return match(",", some(m, 2, 4, deep, m.pat)...)
	case 1, 2:
		return match(m.con(), some(m, 0, 3, deep, m.pat)...)
	}
	return m.pat(0)
}

func (m maker) expr(deep int) api.Expr {
	if deep <= 0 {
		return []api.Expr{num(m.IntN(200) - 100), ref(m.name()), con(m.con())}[m.IntN(3)]
	}
	next := func() api.Expr { return m.expr(deep - 1) }
	switch m.IntN(12) {
	case 0:
		return con(",", some(m, 2, 4, deep, m.expr)...)
	case 1:
		return con(m.con(), some(m, 0, 3, deep, m.expr)...)
	case 2, 3:
		return app(next(), next())
	case 4:
		return fn(m.name(), next())
	case 5:
		return let(m.name(), next(), next())
	case 6:
		return rec(m.name(), m.name(), next(), next())
	case 7:
		return choice(next(), next(), next())
	case 8:
		pats := some(m, 1, 3, deep, m.pat)
		return cases(pats, some(m, len(pats)+1, len(pats)+1, deep, m.expr)...)
	}
	return op(m.pick("+ - * / % < ="), next(), next())
}

// some makes from least to most elements that are less deep.
func some[T any](m maker, least, most, deep int, element func(int) T) []T {
	var list []T
	for range least + m.IntN(most-least+1) {
		list = append(list, element(deep-1))
	}
	return list
}

func (m maker) decl(deep int) api.Decl {
	switch m.IntN(5) {
	case 0:
		return input(m.name(), m.typ(deep))
	case 1:
		return val(m.name(), m.expr(deep))
	case 2:
		return output(m.name(), m.expr(deep))
	case 3:
		return funs(some(m, 1, 3, deep, m.fun)...)
	}
	vars := strings.Fields(m.pick("'a 'b") + " 'c")[:m.IntN(3)]
	return data(m.con(), vars, some(m, 1, 3, deep, m.declared)...)
}

func (m maker) fun(deep int) api.Fun {
	return api.Fun{Name: m.name(), Arg: m.name(), Body: m.expr(deep)}
}

func (m maker) declared(deep int) api.Con {
	return api.Con{Name: m.con(), Args: some(m, 0, 3, deep+1, m.typ)}
}

func (m maker) program(deep int) api.Program {
	return program(some(m, 0, 4, deep+1, m.decl)...)
}

// loose writes trees as tokens with as many parentheses as it likes: it knows nothing of how operators bind.
type loose struct{ maker }

// wrap puts tokens between parentheses, at least as many times as least says.
func (l loose) wrap(least int, tokens []string) []string {
	for range least + max(0, l.IntN(5)-3) {
		tokens = append(append([]string{"("}, tokens...), ")")
	}
	return tokens
}

func (l loose) tuple(args [][]string) []string {
	tokens := []string{"("}
	for i, a := range args {
		if i > 0 {
			tokens = append(tokens, ",")
		}
		tokens = append(tokens, a...)
	}
	return append(tokens, ")")
}

// node writes a constructor or a tuple with what its fields are written as.
func node[T any](l loose, name string, args []T, whole, field func(T) []string) []string {
	var parts [][]string
	tokens := []string{name}
	for _, a := range args {
		parts = append(parts, whole(a))
		tokens = append(tokens, field(a)...)
	}
	if name == "," {
		return l.tuple(parts)
	}
	return tokens
}

func (l loose) typ(t api.Type) []string {
	field := func(t api.Type) []string { return l.wrap(1, l.typ(t)) }
	if t.Name == "->" {
		return l.wrap(0, concat(field(t.Args[0]), "->", field(t.Args[1])))
	}
	return l.wrap(0, node(l, t.Name, t.Args, l.typ, field))
}

func (l loose) pat(p api.Pat) []string {
	if p.Kind == api.PWild {
		return l.wrap(0, []string{"_"})
	}
	return l.wrap(0, node(l, p.Name, p.Args, l.pat, func(p api.Pat) []string { return l.wrap(1, l.pat(p)) }))
}

func (l loose) expr(e api.Expr) []string {
	part := func(i int) []string { return l.wrap(0, l.expr(e.Args[i])) }
	field := func(e api.Expr) []string { return l.wrap(1, l.expr(e)) }
	switch e.Kind {
	case api.ENum:
		return l.wrap(0, []string{lex.Digits(e.Num)})
	case api.EVar:
		return l.wrap(0, []string{e.Name})
	case api.EApp:
		return concat(field(e.Args[0]), field(e.Args[1]))
	case api.EFn:
		return concat("fn", e.Arg, "=>", part(0))
	case api.ELet:
		return concat("let", e.Name, "=", part(0), "in", part(1))
	case api.ERec:
		return concat("let", "fun", e.Name, e.Arg, "=", part(0), "in", part(1))
	case api.EOp:
		return concat(field(e.Args[0]), e.Name, field(e.Args[1]))
	case api.ECase:
		if len(e.Pats) == 2 && l.IntN(2) == 0 && same(e.Pats, choice(e, e, e).Pats) {
			return concat("if", part(0), "then", part(1), "else", part(2))
		}
		tokens := concat("case", part(0))
		for i, p := range e.Pats {
			between := "|"
			if i == 0 {
				between = "of"
			}
			tokens = concat(tokens, between, l.pat(p), "=>", part(i+1))
		}
		return concat(tokens, "end")
	}
	return l.wrap(0, node(l, e.Name, e.Args, l.expr, field))
}

func (l loose) decl(d api.Decl) []string {
	switch d.Kind {
	case api.DInput:
		return concat("input", d.Name, ":", l.typ(d.Type), ";")
	case api.DVal:
		return concat("val", d.Name, "=", l.expr(d.Body), ";")
	case api.DOutput:
		return concat("output", d.Name, "=", l.expr(d.Body), ";")
	case api.DFuns:
		tokens, between := []string{}, "fun"
		for _, f := range d.Funs {
			tokens = concat(tokens, between, f.Name, f.Arg, "=", l.expr(f.Body))
			between = "and"
		}
		return concat(tokens, ";")
	}
	tokens := concat("data", d.Data.Name, d.Data.Vars)
	between := "="
	for _, c := range d.Data.Cons {
		tokens = concat(tokens, between, c.Name)
		for _, a := range c.Args {
			tokens = concat(tokens, l.wrap(1, l.typ(a)))
		}
		between = "|"
	}
	return concat(tokens, ";")
}

func (l loose) program(p api.Program) []string {
	tokens := []string{}
	for _, d := range p.Decls {
		tokens = concat(tokens, l.decl(d))
	}
	return tokens
}

// concat puts strings and lists of strings together.
func concat(parts ...any) []string {
	var list []string
	for _, p := range parts {
		switch x := p.(type) {
		case string:
			list = append(list, x)
		case []string:
			list = append(list, x...)
		}
	}
	return list
}

// spaced puts tokens together to a text, with spaces and comments in between.
func (m maker) spaced(tokens []string) string {
	gaps := []string{" ", " ", "  ", "\n", "\t", "\r\n", "(**)", " (* ( (* let *) *) "}
	var b strings.Builder
	for _, t := range tokens {
		b.WriteString(gaps[m.IntN(len(gaps))])
		b.WriteString(t)
	}
	for m.IntN(2) == 0 {
		b.WriteString(gaps[m.IntN(len(gaps))])
	}
	return b.String()
}
