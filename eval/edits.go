package eval

import "restitch/api"

// hole is the constructor that stands, in an edit, for the part that is edited.
const hole = "^"

func isHole(v api.Value) bool { return v.Con == hole && v.Num == 0 && len(v.Args) == 0 }

// partAt returns the part of a value to which a path leads.
func partAt(v api.Value, path []int) (api.Value, bool) {
	for _, i := range path {
		if i < 0 || i >= len(v.Args) {
			return api.Value{}, false
		}
		v = v.Args[i]
	}
	return v, true
}

// replaced returns a copy of a value with a copy of x at the end of a path, which leads somewhere.
func replaced(v api.Value, path []int, x api.Value) api.Value {
	if len(path) == 0 {
		return copyValue(x)
	}
	return withArgs(v, func(i int, a api.Value) api.Value {
		if i == path[0] {
			return replaced(a, path[1:], x)
		}
		return copyValue(a)
	})
}

// isEdit reports whether the fields of an edit are those of its kind.
func isEdit(e api.Edit) bool {
	switch e.Kind {
	case api.EdPut:
		return e.Num == 0
	case api.EdWrap:
		return e.Num == 0 && !isHole(e.Value) && holes(e.Value) == 1
	case api.EdLift:
		return isInteger(e.Value) && e.Value.Num == 0 && len(e.Value.Args) == 0
	}
	return false
}

func holes(v api.Value) int {
	n := 0
	for part := range parts(v) {
		if isHole(part) {
			n++
		}
	}
	return n
}

// hasValidValue reports whether the value of an edit is valid; a hole is so where an integer would be.
func hasValidValue(e api.Edit) bool {
	return consists(e.Value, func(v api.Value) bool { return isFormed(v) || e.Kind == api.EdWrap && isHole(v) })
}

// changed returns what an edit makes of the part that is edited, if this has the Arg that is asked for.
func changed(part api.Value, e api.Edit) (api.Value, bool) {
	switch e.Kind {
	case api.EdWrap:
		return filled(e.Value, part), true
	case api.EdLift:
		return partAt(part, []int{e.Num})
	}
	return e.Value, true
}

// filled returns a value with x in the place of the hole; it still shares memory with x.
func filled(v, x api.Value) api.Value {
	if isHole(v) {
		return x
	}
	return withArgs(v, func(_ int, a api.Value) api.Value { return filled(a, x) })
}
