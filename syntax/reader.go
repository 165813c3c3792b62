package syntax

import (
	"slices"

	"restitch/api"
	"restitch/lex"
)

// reader reads trees from the tokens of a text; behind the last one is a token without a kind, at the end of the text.
type reader struct {
	tokens []api.Token
	at     int
}

// wrong is what a reader panics with: the index of the byte at which a token begins that no text goes on with.
type wrong struct{ at int }

// read returns the tree that all tokens of a text are.
func read[T any](text string, tree func(*reader) T, check func(T) api.Errno) (result T, at int, e api.Errno) {
	var none T
	tokens, at, e := lex.Scan(text)
	if e != api.OK {
		return none, at, e
	}
	defer func() {
		if w, ok := recover().(wrong); ok {
			result, at, e = none, w.at, api.ErrSyntax
		}
	}()
	r := &reader{tokens: append(tokens, api.Token{At: len(text)})}
	result = tree(r)
	if t := r.peek(); t.Kind != 0 {
		panic(wrong{t.At})
	}
	if e = check(result); e != api.OK {
		return none, 0, e
	}
	return result, 0, api.OK
}

// ahead yields the token that is next, which the loop may read, until there is none.
func (r *reader) ahead(yield func(api.Token) bool) {
	for r.peek().Kind != 0 && yield(r.peek()) {
	}
}

func (r *reader) peek() api.Token { return r.tokens[r.at] }

// next reads the token that is next. At the end this is one that no caller accepts, so that nothing is read behind it.
func (r *reader) next() api.Token {
	t := r.peek()
	r.at++
	return t
}

// take reads a word or a sign.
func (r *reader) take(text string) {
	if t := r.next(); t.Text != text {
		panic(wrong{t.At})
	}
}

// skip reads a word or a sign if it is next.
func (r *reader) skip(text string) bool {
	if r.peek().Text != text {
		return false
	}
	r.at++
	return true
}

// text reads a token of a kind.
func (r *reader) text(kind int) string {
	t := r.next()
	if t.Kind != kind {
		panic(wrong{t.At})
	}
	return t.Text
}

func (r *reader) name() string { return r.text(api.TkName) }

func (r *reader) con() string { return r.text(api.TkCon) }

func (r *reader) variable() string { return r.text(api.TkVar) }

// many reads elements as long as a token is next that one begins with.
func many[T any](r *reader, begins func(api.Token) bool, element func() T) []T {
	var list []T
elements:
	for t := range r.ahead {
		if !begins(t) {
			break elements
		}
		x := element()
		list = append(list, x)
	}
	return list
}

// row reads one or more elements, with a word or a sign between two.
func row[T any](r *reader, between string, element func() T) []T {
	x := element()
	list := []T{x}
	for r.skip(between) {
		x = element()
		list = append(list, x)
	}
	return list
}

// group reads what follows an opening parenthesis: one element, or those that tuple makes one of.
func group[T any](r *reader, element func() T, tuple func([]T) T) T {
	x := element()
	list := []T{x}
	for len(list) < maxTuple && r.skip(",") {
		x = element()
		list = append(list, x)
	}
	r.take(")")
	if len(list) == 1 {
		return list[0]
	}
	return tuple(list)
}

func (r *reader) program() api.Program {
	var p api.Program
	for range r.ahead {
		d := r.decl()
		r.take(";")
		p.Decls = append(p.Decls, d)
	}
	return p
}

func (r *reader) decl() api.Decl {
	t := r.next()
	switch t.Text {
	case "data":
		return api.Decl{Kind: api.DData, Data: r.data()}
	case "input":
		name := r.name()
		r.take(":")
		return api.Decl{Kind: api.DInput, Name: name, Type: r.typ()}
	case "val":
		name, body := r.definition()
		return api.Decl{Kind: api.DVal, Name: name, Body: body}
	case "output":
		name, body := r.definition()
		return api.Decl{Kind: api.DOutput, Name: name, Body: body}
	case "fun":
		return api.Decl{Kind: api.DFuns, Funs: row(r, "and", r.fun)}
	}
	panic(wrong{t.At})
}

func (r *reader) data() api.Data {
	name := r.con()
	vars := many(r, isVariable, r.variable)
	r.take("=")
	return api.Data{Name: name, Vars: vars, Cons: row(r, "|", r.declared)}
}

// declared reads a constructor as it is declared.
func (r *reader) declared() api.Con {
	name := r.con()
	return api.Con{Name: name, Args: many(r, beginsType, r.typeAtom)}
}

// definition reads a name, and what it is.
func (r *reader) definition() (string, api.Expr) {
	name := r.name()
	r.take("=")
	return name, r.expr()
}

func (r *reader) fun() api.Fun {
	name := r.name()
	arg, body := r.definition()
	return api.Fun{Name: name, Arg: arg, Body: body}
}

func isVariable(t api.Token) bool { return t.Kind == api.TkVar }

func beginsType(t api.Token) bool {
	return t.Kind == api.TkVar || t.Kind == api.TkCon || t.Text == "("
}

func (r *reader) typ() api.Type {
	from := r.dataType()
	if !r.skip("->") {
		return from
	}
	to := r.typ()
	return api.Type{Name: "->", Args: []api.Type{from, to}}
}

// dataType reads a type that is no arrow.
func (r *reader) dataType() api.Type {
	if r.peek().Kind != api.TkCon {
		return r.typeAtom()
	}
	name := r.con()
	return api.Type{Name: name, Args: many(r, beginsType, r.typeAtom)}
}

func (r *reader) typeAtom() api.Type {
	t := r.next()
	switch {
	case t.Kind == api.TkVar || t.Kind == api.TkCon:
		return api.Type{Name: t.Text}
	case t.Text == "(":
		return group(r, r.typ, tupleType)
	}
	panic(wrong{t.At})
}

func tupleType(list []api.Type) api.Type { return api.Type{Name: ",", Args: list} }

func beginsPat(t api.Token) bool {
	return t.Kind == api.TkName || t.Kind == api.TkCon || t.Text == "_" || t.Text == "("
}

func (r *reader) pat() api.Pat {
	if r.peek().Kind != api.TkCon {
		return r.patAtom()
	}
	name := r.con()
	return api.Pat{Kind: api.PCon, Name: name, Args: many(r, beginsPat, r.patAtom)}
}

func (r *reader) patAtom() api.Pat {
	t := r.next()
	switch {
	case t.Text == "_":
		return api.Pat{Kind: api.PWild}
	case t.Kind == api.TkName:
		return api.Pat{Kind: api.PVar, Name: t.Text}
	case t.Kind == api.TkCon:
		return api.Pat{Kind: api.PCon, Name: t.Text}
	case t.Text == "(":
		return group(r, r.pat, tuplePat)
	}
	panic(wrong{t.At})
}

func tuplePat(list []api.Pat) api.Pat { return api.Pat{Kind: api.PCon, Name: ",", Args: list} }

func (r *reader) expr() api.Expr {
	switch r.peek().Text {
	case "fn":
		return r.function()
	case "let":
		return r.let()
	case "case":
		return r.cases()
	case "if":
		return r.choice()
	}
	return r.comparison()
}

func (r *reader) function() api.Expr {
	r.take("fn")
	arg := r.name()
	r.take("=>")
	body := r.expr()
	return api.Expr{Kind: api.EFn, Arg: arg, Args: []api.Expr{body}}
}

func (r *reader) let() api.Expr {
	r.take("let")
	if r.skip("fun") {
		f := r.fun()
		return api.Expr{Kind: api.ERec, Name: f.Name, Arg: f.Arg, Args: r.restOf(f.Body)}
	}
	name, body := r.definition()
	return api.Expr{Kind: api.ELet, Name: name, Args: r.restOf(body)}
}

// restOf reads where a definition holds, and returns what it defines with that.
func (r *reader) restOf(body api.Expr) []api.Expr {
	r.take("in")
	rest := r.expr()
	return []api.Expr{body, rest}
}

func (r *reader) cases() api.Expr {
	r.take("case")
	of := r.expr()
	r.take("of")
	result := api.Expr{Kind: api.ECase, Args: []api.Expr{of}}
	for more := true; more; more = r.skip("|") {
		pat := r.pat()
		r.take("=>")
		body := r.expr()
		result.Pats = append(result.Pats, pat)
		result.Args = append(result.Args, body)
	}
	r.take("end")
	return result
}

// choice reads an ECase that is written with if.
func (r *reader) choice() api.Expr {
	r.take("if")
	of := r.expr()
	r.take("then")
	yes := r.expr()
	r.take("else")
	no := r.expr()
	pats := []api.Pat{{Kind: api.PCon, Name: "True"}, {Kind: api.PCon, Name: "False"}}
	return api.Expr{Kind: api.ECase, Args: []api.Expr{of, yes, no}, Pats: pats}
}

// comparison reads at most one < or =: these are not applied one after the other.
func (r *reader) comparison() api.Expr {
	left := r.sum()
	t := r.peek()
	if t.Text != "<" && t.Text != "=" {
		return left
	}
	r.take(t.Text)
	right := r.sum()
	return operation(t.Text, left, right)
}

func (r *reader) sum() api.Expr { return r.chain(r.product, "+", "-") }

func (r *reader) product() api.Expr { return r.chain(r.application, "*", "/", "%") }

// chain reads operands with some signs between them, which are applied from left to right.
func (r *reader) chain(operand func() api.Expr, signs ...string) api.Expr {
	left := operand()
operators:
	for t := range r.ahead {
		if !slices.Contains(signs, t.Text) {
			break operators
		}
		r.take(t.Text)
		right := operand()
		left = operation(t.Text, left, right)
	}
	return left
}

func operation(sign string, left, right api.Expr) api.Expr {
	return api.Expr{Kind: api.EOp, Name: sign, Args: []api.Expr{left, right}}
}

func beginsAtom(t api.Token) bool {
	return t.Kind == api.TkNum || t.Kind == api.TkName || t.Kind == api.TkCon || t.Text == "("
}

// application reads a constructor with its fields, or what is applied to one argument after the other.
func (r *reader) application() api.Expr {
	if r.peek().Kind == api.TkCon {
		name := r.con()
		return api.Expr{Kind: api.ECon, Name: name, Args: many(r, beginsAtom, r.atom)}
	}
	result := r.atom()
	for _, arg := range many(r, beginsAtom, r.atom) {
		result = api.Expr{Kind: api.EApp, Args: []api.Expr{result, arg}}
	}
	return result
}

func (r *reader) atom() api.Expr {
	t := r.next()
	switch {
	case t.Kind == api.TkNum:
		return api.Expr{Kind: api.ENum, Num: t.Num}
	case t.Kind == api.TkName:
		return api.Expr{Kind: api.EVar, Name: t.Text}
	case t.Kind == api.TkCon:
		return api.Expr{Kind: api.ECon, Name: t.Text}
	case t.Text == "(":
		return group(r, r.expr, tupleExpr)
	}
	panic(wrong{t.At})
}

func tupleExpr(list []api.Expr) api.Expr { return api.Expr{Kind: api.ECon, Name: ",", Args: list} }
