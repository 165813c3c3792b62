package derive

import (
	"math"
	"slices"

	"restitch/api"
)

// mostBuilt is how many types a result has at most: 40 bytes each, so that they are no more than 2^31 - 1 bytes.
const mostBuilt = math.MaxInt32 / 40

// counter counts types, up to one more than most, down to a depth.
type counter struct{ count, most, deepest int }

// add reports whether there are no more than most types with those of a term.
func (c *counter) add(t term, deep int) bool {
	c.count++
	if c.count > c.most {
		return false
	}
	t = t.head()
	if deep == c.deepest {
		return true
	}
	for i := range t.Args {
		if !c.add(t.arg(i), deep+1) {
			return false
		}
	}
	return true
}

// count counts the types that are yielded as a derivation's are counted; MaxTypes + 1 if there are more.
func count(types func(yield func(term) bool)) int {
	c := &counter{most: api.MaxTypes, deepest: api.MaxDeep}
	for t := range types {
		if !c.add(t, 1) {
			break
		}
	}
	return c.count
}

// canBuild reports whether the types that are yielded are no more than a result has.
func canBuild(types func(yield func(term) bool)) bool {
	c := &counter{most: mostBuilt, deepest: math.MaxInt}
	for t := range types {
		if !c.add(t, 1) {
			return false
		}
	}
	return true
}

// termsOf yields the types of an expression and of those within it.
func termsOf(x api.Typed, in *context) func(yield func(term) bool) {
	return func(yield func(term) bool) {
		one := func(t api.Type) bool { return yield(term{t, in}) }
		var visit func(x api.Typed) bool
		visit = func(x api.Typed) bool { return one(x.Type) && all(x.Inst, one) && all(x.Args, visit) }
		visit(x)
	}
}

// allTerms yields the types of a derivation.
func allTerms(d api.Derivation) func(yield func(term) bool) {
	return func(yield func(term) bool) {
		for _, s := range d.Schemes {
			if !yield(plain(s.Scheme.Type)) {
				return
			}
		}
		for _, b := range d.Bodies {
			for t := range termsOf(b, nil) {
				if !yield(t) {
					return
				}
			}
		}
	}
}

// rebuilt returns a copy of types with others in the place of variables.
func rebuilt(x api.Typed, in *context) api.Typed {
	result := api.Typed{Type: term{x.Type, in}.built(), Inst: builtAll(x.Inst, in)}
	for _, a := range x.Args {
		result.Args = append(result.Args, rebuilt(a, in))
	}
	return result
}

func builtAll(l []api.Type, in *context) (result []api.Type) {
	for _, t := range l {
		result = append(result, term{t, in}.built())
	}
	return result
}

func copyNamed(n api.Named) api.Named {
	return api.Named{Name: n.Name, Scheme: api.Scheme{Vars: slices.Clone(n.Scheme.Vars), Type: plain(n.Scheme.Type).built()}}
}

func sameType(a, b api.Type) bool { return sameTerms(plain(a), plain(b)) }

func sameNamed(a, b api.Named) bool {
	return a.Name == b.Name && slices.Equal(a.Scheme.Vars, b.Scheme.Vars) && sameType(a.Scheme.Type, b.Scheme.Type)
}

func sameTyped(a, b api.Typed) bool {
	return sameType(a.Type, b.Type) && slices.EqualFunc(a.Inst, b.Inst, sameType) && slices.EqualFunc(a.Args, b.Args, sameTyped)
}
