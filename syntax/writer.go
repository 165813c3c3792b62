package syntax

import (
	"restitch/api"
	"restitch/lex"
)

// writer writes trees that are well formed as tokens.
type writer struct{ tokens []api.Token }

// write returns the text of a tree.
func write[T any](tree T, tokens func(*writer, T), check func(T) api.Errno) (string, api.Errno) {
	if e := check(tree); e != api.OK {
		return "", e
	}
	w := &writer{}
	tokens(w, tree)
	return lex.Join(w.tokens), api.OK
}

func (w *writer) put(texts ...string) {
	for _, text := range texts {
		w.tokens = append(w.tokens, api.Token{Kind: lex.Kind(text), Text: text})
	}
}

func (w *writer) name(text string) { w.put(text) }

func (w *writer) num(n int) {
	w.tokens = append(w.tokens, api.Token{Kind: api.TkNum, Num: n, Text: lex.Digits(n)})
}

// writeList writes elements, with a sign or a word between two if there is one.
func writeList[T any](w *writer, between string, elements []T, element func(T)) {
	for i, x := range elements {
		if i > 0 && between != "" {
			w.put(between)
		}
		element(x)
	}
}

// tuple writes elements of a tuple, whose parentheses always stand.
func tuple[T any](w *writer, elements []T, element func(T)) {
	w.put("(")
	writeList(w, ",", elements, element)
	w.put(")")
}

// enclosed writes an element, between parentheses if it would be another one without them.
func enclosed[T any](w *writer, other bool, x T, element func(T)) {
	if other {
		w.put("(")
	}
	element(x)
	if other {
		w.put(")")
	}
}

func (w *writer) program(p api.Program) { writeList(w, "", p.Decls, w.decl) }

func (w *writer) decl(d api.Decl) {
	switch d.Kind {
	case api.DData:
		w.data(d.Data)
	case api.DInput:
		w.put("input", d.Name, ":")
		w.typ(d.Type)
	case api.DFuns:
		w.put("fun")
		writeList(w, "and", d.Funs, w.fun)
	case api.DVal:
		w.put("val", d.Name, "=")
		w.expr(d.Body)
	case api.DOutput:
		w.put("output", d.Name, "=")
		w.expr(d.Body)
	}
	w.put(";")
}

func (w *writer) data(d api.Data) {
	w.put("data", d.Name)
	writeList(w, "", d.Vars, w.name)
	w.put("=")
	writeList(w, "|", d.Cons, w.declared)
}

func (w *writer) declared(c api.Con) {
	w.put(c.Name)
	writeList(w, "", c.Args, w.typeAtom)
}

func (w *writer) fun(f api.Fun) {
	w.put(f.Name, f.Arg, "=")
	w.expr(f.Body)
}

func isArrow(t api.Type) bool { return t.Name == "->" }

func (w *writer) typ(t api.Type) {
	switch {
	case isArrow(t):
		from, to := t.Args[0], t.Args[1]
		enclosed(w, isArrow(from), from, w.typ)
		w.put("->")
		w.typ(to)
	case t.Name == ",":
		tuple(w, t.Args, w.typ)
	default:
		w.put(t.Name)
		writeList(w, "", t.Args, w.typeAtom)
	}
}

func (w *writer) typeAtom(t api.Type) {
	enclosed(w, t.Name != "," && len(t.Args) > 0, t, w.typ)
}

func (w *writer) pat(p api.Pat) {
	switch {
	case p.Kind == api.PWild:
		w.put("_")
	case p.Name == ",":
		tuple(w, p.Args, w.pat)
	default:
		w.put(p.Name)
		writeList(w, "", p.Args, w.patAtom)
	}
}

func (w *writer) patAtom(p api.Pat) {
	enclosed(w, p.Name != "," && len(p.Args) > 0, p, w.pat)
}

// The levels of the grammar: an expression of one is also an element of those before it.
const (
	levelExpr = iota
	levelComp
	levelSum
	levelProd
	levelApp
	levelAtom
)

// level returns the last level that an expression without parentheses is an element of.
func level(e api.Expr) int {
	switch e.Kind {
	case api.ENum, api.EVar:
		return levelAtom
	case api.ECon:
		if e.Name != "," && len(e.Args) > 0 {
			return levelApp
		}
		return levelAtom
	case api.EApp:
		return levelApp
	case api.EOp:
		return levelOf(e.Name)
	}
	return levelExpr
}

// levelOf returns the level of an operator.
func levelOf(sign string) int {
	switch sign {
	case "*", "/", "%":
		return levelProd
	case "+", "-":
		return levelSum
	}
	return levelComp
}

func (w *writer) expr(e api.Expr) {
	switch e.Kind {
	case api.ENum:
		w.num(e.Num)
	case api.EVar:
		w.put(e.Name)
	case api.ECon:
		w.construction(e)
	case api.EApp:
		w.application(e)
	case api.EFn:
		w.put("fn", e.Arg, "=>")
		w.expr(e.Args[0])
	case api.ELet:
		w.put("let", e.Name, "=")
		writeList(w, "in", e.Args, w.expr)
	case api.ERec:
		w.put("let", "fun", e.Name, e.Arg, "=")
		writeList(w, "in", e.Args, w.expr)
	case api.ECase:
		w.cases(e)
	case api.EOp:
		w.operation(e)
	}
}

// exprFrom writes an expression as an element of a level.
func (w *writer) exprFrom(least int, e api.Expr) {
	enclosed(w, level(e) < least, e, w.expr)
}

func (w *writer) atom(e api.Expr) { w.exprFrom(levelAtom, e) }

func (w *writer) construction(e api.Expr) {
	if e.Name == "," {
		tuple(w, e.Args, w.expr)
		return
	}
	w.put(e.Name)
	writeList(w, "", e.Args, w.atom)
}

func (w *writer) application(e api.Expr) {
	function, arg := e.Args[0], e.Args[1]
	// A constructor without parentheses would take the argument as its field.
	takes := function.Kind == api.ECon && function.Name != ","
	enclosed(w, takes || level(function) < levelApp, function, w.expr)
	w.atom(arg)
}

func (w *writer) operation(e api.Expr) {
	own := level(e)
	left := own
	if own == levelComp {
		// < and = are not applied one after the other.
		left = own + 1
	}
	w.exprFrom(left, e.Args[0])
	w.put(e.Name)
	w.exprFrom(own+1, e.Args[1])
}

func (w *writer) cases(e api.Expr) {
	if isChoice(e.Pats) {
		w.choice(e.Args)
		return
	}
	w.put("case")
	w.expr(e.Args[0])
	w.put("of")
	for i, p := range e.Pats {
		if i > 0 {
			w.put("|")
		}
		w.pat(p)
		w.put("=>")
		w.expr(e.Args[i+1])
	}
	w.put("end")
}

// isChoice reports whether the patterns of an ECase are those that if stands for.
func isChoice(pats []api.Pat) bool {
	return len(pats) == 2 && isBare(pats[0], "True") && isBare(pats[1], "False")
}

func isBare(p api.Pat, con string) bool {
	return p.Kind == api.PCon && p.Name == con && len(p.Args) == 0
}

func (w *writer) choice(args []api.Expr) {
	w.put("if")
	w.expr(args[0])
	w.put("then")
	w.expr(args[1])
	w.put("else")
	w.expr(args[2])
}
