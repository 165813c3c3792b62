package derive

import (
	"strconv"

	"restitch/api"
)

// class is a type that is being found: a variable (without a name), or a type with its Args, or what link is.
type class struct {
	name string
	args []*class
	link *class
}

// root returns the class that stands for all that are the same.
func (c *class) root() *class {
	top := c
	for top.link != nil {
		top = top.link
	}
	for c != top {
		c, c.link = c.link, top
	}
	return top
}

func fresh(count int) (list []*class) {
	for range count {
		list = append(list, &class{})
	}
	return list
}

// finder reads the rules for types that are still to be found. It does not look for cycles: it is asked for programs that have types.
type finder struct{}

// sought returns an expression's types, none of which is found yet.
func sought() *typed[*class] { return &typed[*class]{typ: &class{}} }

func (f finder) formed(x *typed[*class], inst, args int) bool {
	x.inst = fresh(inst)
	for range args {
		x.args = append(x.args, sought())
	}
	return true
}

// bindable is so of all types: those that are found are known.
func (f finder) bindable(*class) bool { return true }

func (f finder) parts(t *class, name string, count int) ([]*class, bool) {
	u := &class{name: name, args: fresh(count)}
	return u.args, f.equal(t, u)
}

func (f finder) under(t api.Type, of map[string]*class) *class {
	if c, ok := of[t.Name]; ok {
		return c
	}
	c := &class{name: t.Name}
	for _, a := range t.Args {
		c.args = append(c.args, f.under(a, of))
	}
	return c
}

func (f finder) same(l ...*class) bool {
	for i := 1; i < len(l); i++ {
		if !f.equal(l[0], l[i]) {
			return false
		}
	}
	return true
}

// equal makes two classes one, if that can be.
func (f finder) equal(a, b *class) bool {
	a, b = a.root(), b.root()
	if a == b {
		return true
	}
	if a.name != "" && b.name == "" {
		a, b = b, a
	}
	if a.name != "" && (a.name != b.name || len(a.args) != len(b.args)) {
		return false
	}
	a.link = b
	for i := range a.args {
		if !f.equal(a.args[i], b.args[i]) {
			return false
		}
	}
	return true
}

// writer writes found types down, and leaves if they are too great, or too many.
type writer struct {
	types int // those of the derivation so far
	vars  int // variables that have got a name
}

func (w *writer) typ(c *class) api.Type {
	most := min(w.types+api.MaxNodes, api.MaxTypes)
	var write func(c *class, deep int) api.Type
	write = func(c *class, deep int) api.Type {
		w.types++
		if w.types > most || deep > api.MaxDeep {
			panic(wrong{e: api.ErrLong})
		}
		c = c.root()
		if c.name == "" {
			c.name = "'t" + strconv.Itoa(w.vars)
			w.vars++
		}
		result := api.Type{Name: c.name}
		for _, a := range c.args {
			result.Args = append(result.Args, write(a, deep+1))
		}
		return result
	}
	return write(c, 1)
}

func (w *writer) typed(x *typed[*class]) api.Typed {
	result := api.Typed{Type: w.typ(x.typ)}
	for _, t := range x.inst {
		result.Inst = append(result.Inst, w.typ(t))
	}
	for _, a := range x.args {
		result.Args = append(result.Args, w.typed(a))
	}
	return result
}
