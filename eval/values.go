package eval

import (
	"cmp"
	"slices"
	"strings"

	"restitch/api"
	"restitch/lex"
)

const (
	tuple    = ","
	maxTuple = 4
)

// wrong is what a call panics with that ends with an error; at is an index of a text that is being read.
type wrong struct {
	at int
	e  api.Errno
}

// parts yields a value of any form and those within it, each before its Args: the first MaxValue + 1 of them.
func parts(v api.Value) func(yield func(api.Value) bool) {
	return func(yield func(api.Value) bool) {
		left := api.MaxValue + 1
		var visit func(v api.Value) bool
		visit = func(v api.Value) bool {
			if left == 0 {
				return false
			}
			left--
			if !yield(v) {
				return false
			}
			for _, a := range v.Args {
				if !visit(a) {
					return false
				}
			}
			return true
		}
		visit(v)
	}
}

// consists reports whether there are no more than MaxValue values in a value, each of some form.
func consists(v api.Value, isOf func(api.Value) bool) bool {
	n := 0
	for part := range parts(v) {
		n++
		if n > api.MaxValue || !isOf(part) {
			return false
		}
	}
	return true
}

func isValid(v api.Value) bool { return consists(v, isFormed) }

// isFormed looks at a value without those within it.
func isFormed(v api.Value) bool {
	n := len(v.Args)
	switch {
	case isInteger(v):
		return n == 0
	case v.Con == tuple:
		return v.Num == 0 && n >= 2 && n <= maxTuple
	}
	return v.Num == 0 && n <= api.MaxArms && lex.IsCon(v.Con)
}

func isInteger(v api.Value) bool { return v.Con == "" }

func depth(v api.Value) int {
	deepest := 0
	for _, a := range v.Args {
		deepest = max(deepest, depth(a))
	}
	return deepest + 1
}

// compare is the order of valid values. (What a sort of values does not have is equal in all of its values.)
func compare(a, b api.Value) int {
	first := cmp.Or(
		cmp.Compare(rank(a), rank(b)),
		cmp.Compare(a.Num, b.Num),
		strings.Compare(a.Con, b.Con),
		cmp.Compare(len(a.Args), len(b.Args)),
	)
	if first != 0 {
		return first
	}
	return slices.CompareFunc(a.Args, b.Args, compare)
}

// rank returns the place of the sort of a valid value in the order.
func rank(v api.Value) int {
	switch {
	case isInteger(v):
		return 0
	case v.Con == tuple:
		return 1
	}
	return 2
}

// withArgs returns a value with the Args that a function returns for those that it has, and their indices.
func withArgs(v api.Value, other func(i int, a api.Value) api.Value) api.Value {
	v.Args = slices.Clone(v.Args)
	for i, a := range v.Args {
		v.Args[i] = other(i, a)
	}
	return v
}

func copyValue(v api.Value) api.Value {
	return withArgs(v, func(_ int, a api.Value) api.Value { return copyValue(a) })
}

// checked returns a result if it is valid.
func checked(v api.Value) (api.Value, api.Errno) {
	if !isValid(v) {
		return api.Value{}, api.ErrForm
	}
	return v, api.OK
}
