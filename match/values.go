package match

import (
	"math"
	"slices"

	"restitch/api"
)

// mostCopied is how many values a result has at most: 48 bytes each, so that they are no more than 2^31 - 1 bytes.
const mostCopied = math.MaxInt32 / 48

func fieldsOf(v api.Value) []api.Value { return v.Args }

func isLarge(v api.Value) bool { return count(api.MaxValue, fieldsOf, v) > api.MaxValue }

// checkMatch returns the error of patterns and a value of any form.
func checkMatch(v api.Value, l ...api.Pat) api.Errno {
	switch {
	case deeper(api.MaxDeep, l...):
		return api.ErrDeep
	case len(l) > api.MaxPats || areLong(l...):
		return api.ErrLong
	case isLarge(v):
		return api.ErrLarge
	}
	return api.OK
}

func matches(p api.Pat, v api.Value) bool {
	switch p.Kind {
	case api.PWild, api.PVar:
		return true
	case api.PCon:
		return p.Name == v.Con && slices.EqualFunc(p.Args, v.Args, matches)
	}
	return false
}

// meet reports whether two valid patterns match one value.
func meet(a, b api.Pat) bool {
	return isOpen(a) || isOpen(b) || a.Name == b.Name && slices.EqualFunc(a.Args, b.Args, meet)
}

// within reports whether a valid pattern is within another one.
func within(a, b api.Pat) bool {
	return isOpen(b) || !isOpen(a) && a.Name == b.Name && slices.EqualFunc(a.Args, b.Args, within)
}

// meetsAny reports whether a pattern meets one of others.
func meetsAny(a api.Pat, others ...api.Pat) bool {
	return slices.ContainsFunc(others, func(b api.Pat) bool { return meet(a, b) })
}

// part returns the part of a value at a path.
func part(v api.Value, path []int) (api.Value, bool) {
	for _, i := range path {
		if i < 0 || i >= len(v.Args) {
			return api.Value{}, false
		}
		v = v.Args[i]
	}
	return v, true
}

// canCopy reports whether a value is no greater than a result may be.
func canCopy(v api.Value) bool {
	sizes := map[memory[api.Value]]int{}
	var size func(l []api.Value) int
	size = func(l []api.Value) int {
		if len(l) == 0 {
			return 0
		}
		here := memoryOf(l)
		if known, ok := sizes[here]; ok {
			return known
		}
		// A list that is met within itself has no end.
		sizes[here] = mostCopied
		total := len(l)
		for _, v := range l {
			total = min(total+size(v.Args), mostCopied)
		}
		sizes[here] = total
		return total
	}
	return size(v.Args) < mostCopied
}

func copyValue(v api.Value) api.Value {
	v.Args = slices.Clone(v.Args)
	for i, a := range v.Args {
		v.Args[i] = copyValue(a)
	}
	return v
}

// bindsOf returns what the variables of a pattern stand for in a value that it matches.
func bindsOf(p api.Pat, v api.Value) (result []api.NamedValue) {
	for name, path := range variables(p) {
		value, _ := part(v, path)
		result = append(result, api.NamedValue{Name: name, Value: copyValue(value)})
	}
	return result
}
