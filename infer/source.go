package infer

import (
	"restitch/api"
	"restitch/lex"
)

// isPlain reports whether a name is plain, or no name at all: a sign, or nothing.
func isPlain(name string) bool {
	switch lex.Kind(name) {
	case api.TkName, api.TkCon, api.TkVar:
		return lex.Plain(name)
	}
	return true
}

// written returns the names in a declaration; signs, and empty names, may be among them.
func written(d api.Decl) []string {
	list := append([]string{d.Name, d.Data.Name}, d.Data.Vars...)
	for _, c := range d.Data.Cons {
		list = append(list, c.Name)
		for _, t := range c.Args {
			list = appendType(list, t)
		}
	}
	list = appendExpr(appendType(list, d.Type), d.Body)
	for _, f := range d.Funs {
		list = appendExpr(append(list, f.Name, f.Arg), f.Body)
	}
	return list
}

func appendType(list []string, t api.Type) []string {
	for u := range types(t) {
		list = append(list, u.Name)
	}
	return list
}

func appendExpr(list []string, e api.Expr) []string {
	list = append(list, e.Name, e.Arg)
	for _, p := range e.Pats {
		list = appendPat(list, p)
	}
	for _, a := range e.Args {
		list = appendExpr(list, a)
	}
	return list
}

func appendPat(list []string, p api.Pat) []string {
	list = append(list, p.Name)
	for _, a := range p.Args {
		list = appendPat(list, a)
	}
	return list
}
