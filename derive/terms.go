package derive

import "restitch/api"

// context is what variables stand for.
type context struct{ of map[string]term }

// term is a type in which variables stand for others, without a copy that has these in their place: that may be very great.
type term struct {
	api.Type
	in *context
}

// head returns the term that is meant: what a variable stands for.
func (t term) head() term {
	for t.in != nil && isVar(t.Type) {
		u, ok := t.in.of[t.Name]
		if !ok {
			break
		}
		t = u
	}
	return t
}

func (t term) arg(i int) term { return term{t.Args[i], t.in} }

// list tells which Args in memory a term has, so that a pair of terms that is met again is known.
type list struct {
	first *api.Type
	count int
	in    *context
}

func (t term) list() list { return list{&t.Args[0], len(t.Args), t.in} }

// comparison compares terms. It ends for types that contain themselves, and is fast for those that share their Args.
type comparison struct{ met map[[2]list]bool }

func (c *comparison) same(a, b term, deep int) bool {
	a, b = a.head(), b.head()
	if a.Name != b.Name || len(a.Args) != len(b.Args) {
		return false
	}
	// A type that is counted is not very great down to this depth, so just what is deeper needs to be noted. A pair that was met before is the same, or the answer is no anyway.
	if deep > api.MaxDeep && len(a.Args) > 0 {
		pair := [2]list{a.list(), b.list()}
		if c.met[pair] {
			return true
		}
		if c.met == nil {
			c.met = map[[2]list]bool{}
		}
		c.met[pair] = true
	}
	for i := range a.Args {
		if !c.same(a.arg(i), b.arg(i), deep+1) {
			return false
		}
	}
	return true
}

// sameTerms reports whether terms are all the same.
func sameTerms(l ...term) bool {
	for i := 1; i < len(l); i++ {
		c := comparison{}
		if !c.same(l[0], l[i], 1) {
			return false
		}
	}
	return true
}

// checker reads the rules for types that are there.
type checker struct{ *base }

func (c checker) formed(x *typed[term], inst, args int) bool {
	return len(x.inst) == inst && len(x.args) == args && c.bindable(x.typ) && all(x.inst, c.bindable)
}

func (c checker) bindable(t term) bool { return c.known(t.Type) }

func (c checker) parts(t term, name string, count int) ([]term, bool) {
	t = t.head()
	if t.Name != name || len(t.Args) != count {
		return nil, false
	}
	var list []term
	for i := range t.Args {
		list = append(list, t.arg(i))
	}
	return list, true
}

func (c checker) under(t api.Type, of map[string]term) term {
	return term{t, &context{of}}
}

func (c checker) same(l ...term) bool { return sameTerms(l...) }

func plain(t api.Type) term { return term{Type: t} }

func plainAll(l []api.Type) (result []term) {
	for _, t := range l {
		result = append(result, plain(t))
	}
	return result
}

// given returns types that were counted as terms.
func given(x api.Typed) *typed[term] {
	result := &typed[term]{typ: plain(x.Type), inst: plainAll(x.Inst)}
	for _, a := range x.Args {
		result.args = append(result.args, given(a))
	}
	return result
}

// built returns the type that a term is.
func (t term) built() api.Type {
	t = t.head()
	result := api.Type{Name: t.Name}
	for i := range t.Args {
		result.Args = append(result.Args, t.arg(i).built())
	}
	return result
}
