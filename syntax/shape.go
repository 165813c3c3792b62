package syntax

import (
	"restitch/api"
	"restitch/lex"
)

// maxTuple is how many elements a tuple has at most.
const maxTuple = 4

func all[T any](list []T, is func(T) bool) bool {
	for _, x := range list {
		if !is(x) {
			return false
		}
	}
	return true
}

// isCount reports whether there is one, and no more than a list may have.
func isCount(n int) bool { return n >= 1 && n <= api.MaxArms }

// isCon reports whether a node with this name may have so many Args: a constructor, a data type, or a tuple.
func isCon(name string, args int) bool {
	if name == "," {
		return args >= 2 && args <= maxTuple
	}
	return args <= api.MaxArms && lex.IsCon(name)
}

func isType(t api.Type) bool {
	switch n := len(t.Args); {
	case t.Name == "->":
		return n == 2 && all(t.Args, isType)
	case n == 0 && lex.IsVar(t.Name):
		return true
	default:
		return isCon(t.Name, n) && all(t.Args, isType)
	}
}

func isPat(p api.Pat) bool {
	switch p.Kind {
	case api.PWild:
		return p.Name == "" && len(p.Args) == 0
	case api.PVar:
		return lex.IsName(p.Name) && len(p.Args) == 0
	case api.PCon:
		return isCon(p.Name, len(p.Args)) && all(p.Args, isPat)
	}
	return false
}

func isExpr(e api.Expr) bool {
	return isNode(e) && all(e.Args, isExpr) && all(e.Pats, isPat)
}

// isNode looks at an expression without what is within it.
func isNode(e api.Expr) bool {
	if e.Kind != api.ENum && e.Num != 0 || e.Kind != api.ECase && len(e.Pats) > 0 {
		return false
	}
	n := len(e.Args)
	switch e.Kind {
	case api.ENum:
		return e.Name == "" && e.Arg == "" && n == 0
	case api.EVar:
		return lex.IsName(e.Name) && e.Arg == "" && n == 0
	case api.ECon:
		return isCon(e.Name, n) && e.Arg == ""
	case api.EApp:
		return e.Name == "" && e.Arg == "" && n == 2
	case api.EFn:
		return e.Name == "" && lex.IsName(e.Arg) && n == 1
	case api.ELet:
		return lex.IsName(e.Name) && e.Arg == "" && n == 2
	case api.ERec:
		return lex.IsName(e.Name) && lex.IsName(e.Arg) && n == 2
	case api.ECase:
		return e.Name == "" && e.Arg == "" && isCount(len(e.Pats)) && n == len(e.Pats)+1
	case api.EOp:
		return isOperator(e.Name) && e.Arg == "" && n == 2
	}
	return false
}

func isOperator(name string) bool {
	switch name {
	case "+", "-", "*", "/", "%", "<", "=":
		return true
	}
	return false
}

// isDecl takes the fields away that a declaration of its kind has: the others have to be empty.
func isDecl(d api.Decl) bool {
	rest, good := d, false
	switch d.Kind {
	case api.DData:
		rest.Data, good = api.Data{}, isData(d.Data)
	case api.DInput:
		rest.Name, rest.Type, good = "", api.Type{}, lex.IsName(d.Name) && isType(d.Type)
	case api.DFuns:
		rest.Funs, good = nil, isCount(len(d.Funs)) && all(d.Funs, isFun)
	case api.DVal, api.DOutput:
		rest.Name, rest.Body, good = "", api.Expr{}, lex.IsName(d.Name) && isExpr(d.Body)
	}
	return good && isEmpty(rest)
}

func isData(d api.Data) bool {
	return lex.IsCon(d.Name) && len(d.Vars) <= api.MaxArms && all(d.Vars, lex.IsVar) &&
		isCount(len(d.Cons)) && all(d.Cons, isDeclared)
}

// isDeclared reports whether a constructor may stand in a declaration.
func isDeclared(c api.Con) bool {
	return lex.IsCon(c.Name) && len(c.Args) <= api.MaxArms && all(c.Args, isType)
}

func isFun(f api.Fun) bool {
	return lex.IsName(f.Name) && lex.IsName(f.Arg) && isExpr(f.Body)
}

// isEmpty reports whether a declaration has nothing but its kind.
func isEmpty(d api.Decl) bool {
	noData := d.Data.Name == "" && len(d.Data.Vars) == 0 && len(d.Data.Cons) == 0
	noType := d.Type.Name == "" && len(d.Type.Args) == 0
	noBody := d.Body.Kind == 0 && d.Body.Num == 0 && d.Body.Name == "" && d.Body.Arg == "" &&
		len(d.Body.Args) == 0 && len(d.Body.Pats) == 0
	return d.Name == "" && len(d.Funs) == 0 && noData && noType && noBody
}
