package eval

import (
	"reflect"
	"slices"
	"strconv"
	"strings"
	"testing"

	"restitch/api"
	"restitch/infer"
	"restitch/syntax"
)

func parse[T any](read func(string) (T, int, api.Errno), text string) T {
	result, at, e := read(text)
	if e != api.OK {
		panic("wrong text: " + text[at:])
	}
	return result
}

func typ(text string) api.Type        { return parse(syntax.ParseType, text) }
func pat(text string) api.Pat         { return parse(syntax.ParsePat, text) }
func program(text string) api.Program { return parse(syntax.Parse, text) }

func datas(text string) []api.Data {
	ds, _, e := infer.Datas(program(text))
	if e != api.OK {
		panic("no data types: " + text)
	}
	return ds
}

func num(n int) api.Value { return api.Value{Num: n} }

func con(name string, args ...api.Value) api.Value { return api.Value{Con: name, Args: args} }

func pair(l ...api.Value) api.Value { return con(",", l...) }

// val reads a value as an expression of constructors and numbers, without this package.
func val(text string) api.Value {
	return valueOf(parse(syntax.ParseExpr, strings.ReplaceAll(text, "^", "hole")))
}

func valueOf(e api.Expr) api.Value {
	switch e.Kind {
	case api.ENum:
		return num(e.Num)
	case api.EVar:
		return con("^")
	case api.ECon:
		v := con(e.Name)
		for _, a := range e.Args {
			v.Args = append(v.Args, valueOf(a))
		}
		return v
	}
	panic("no value")
}

// show writes any value that ends.
func show(v api.Value) string {
	text := v.Con
	if v.Num != 0 || v.Con == "" {
		text += strconv.Itoa(v.Num)
	}
	if len(v.Args) == 0 {
		return text
	}
	var args []string
	for _, a := range v.Args {
		args = append(args, show(a))
	}
	return text + "[" + strings.Join(args, " ") + "]"
}

func showAll(l []api.NamedValue) string {
	var texts []string
	for _, n := range l {
		texts = append(texts, n.Name+" = "+show(n.Value))
	}
	return strings.Join(texts, "; ")
}

func showOutcome(o api.Outcome) string {
	return showAll(o.Outputs) + " after " + strconv.Itoa(o.Steps)
}

// same reports whether two results are the same; nil and empty lists are so.
func same[T any](a, b T) bool { return alike(reflect.ValueOf(a), reflect.ValueOf(b)) }

func alike(a, b reflect.Value) bool {
	switch a.Kind() {
	case reflect.Slice:
		if a.Len() != b.Len() {
			return false
		}
		for i := range a.Len() {
			if !alike(a.Index(i), b.Index(i)) {
				return false
			}
		}
		return true
	case reflect.Struct:
		for i := range a.NumField() {
			if !alike(a.Field(i), b.Field(i)) {
				return false
			}
		}
		return true
	}
	return a.Interface() == b.Interface()
}

// list returns the list of some values.
func list(l ...api.Value) api.Value {
	v := con("Nil")
	for _, x := range slices.Backward(l) {
		v = con("Cons", x, v)
	}
	return v
}

// chain returns a list of zeros that has an odd number of values.
func chain(size int) api.Value { return list(make([]api.Value, size/2)...) }

// sized returns a value of a number of values.
func sized(size int) api.Value {
	if size%2 == 0 {
		return con("Some", chain(size-1))
	}
	return chain(size)
}

// nested returns a value of some depth, which has as many values.
func nested(deep int) api.Value {
	v := con("Nil")
	for range deep - 1 {
		v = con("Some", v)
	}
	return v
}

// vast returns a value that has 2 to the power of its depth values, in little memory.
func vast(deep int) api.Value {
	v := num(1)
	for range deep {
		v = pair(v, v)
	}
	return v
}

// endless returns a value within itself.
func endless() api.Value {
	v := con("Cons", num(1), num(1))
	v.Args[1] = v
	return v
}

// wide returns a constructor with a number of zeros.
func wide(name string, n int) api.Value { return con(name, make([]api.Value, n)...) }

// badValues are values that are not valid.
func badValues() []api.Value {
	list := []api.Value{
		{Num: 1, Args: []api.Value{num(1)}}, {Args: make([]api.Value, 2)},
		con("x"), con("cons", num(1)), con("'a"), con("fn"), con("1"), con("^"), con("->"), con("("), con(",,"), con(" "), con("Nil "), con(" Nil"), con("Nil'"),
		con("Nil'a"), con("N-"), con("A B"), con("A(**)"), con("\x00"), con("É"), con("A" + strings.Repeat("a", 24)), con("A" + strings.Repeat("a", 100000)),
		{Con: "Nil", Num: 1}, {Con: "Nil", Num: -1}, {Con: "Cons", Num: 1, Args: []api.Value{num(1)}}, {Con: ",", Num: 1, Args: make([]api.Value, 2)},
		con(","), wide(",", 1), wide(",", 5), wide(",", 17), wide("C", 17), wide("C", 100000), wide("", 100000),
		sized(4001), sized(4002), nested(4001), nested(100000), vast(12), vast(60), endless(),
	}
	for _, v := range slices.Clone(list) {
		list = append(list, con("Some", v), pair(num(1), con("Cons", con("Nil"), v), num(1)))
	}
	return list
}

// goodValues are values that are valid.
func goodValues() []api.Value {
	return []api.Value{
		num(0), num(1), num(-1), num(1<<63 - 1), num(-1 << 63), con("A"), con("Nil"), con("X_1a'07"), con("A" + strings.Repeat("a", 23)), con("Int"), con("True", num(1)),
		wide("C", 16), pair(num(1), num(2)), wide(",", 3), wide(",", 4), {Con: "Nil", Args: []api.Value{}}, {Args: []api.Value{}},
		con("Cons", num(1)), con("Cons", con("Cons"), pair(con("A"), con("A")), num(-3)), sized(3999), sized(4000), nested(4000), vast(10),
	}
}

func errs(t *testing.T, what any, got, want api.Errno) {
	t.Helper()
	if got != want {
		t.Errorf("%v: error %d, expected %d", what, got, want)
	}
}

func texts(t *testing.T, what any, got, want string) {
	t.Helper()
	if got != want {
		t.Errorf("%v: %s, expected %s", what, got, want)
	}
}

// short writes the beginning of a value, which may have no end.
func short(v api.Value) string {
	if len(v.Args) == 0 {
		return show(v)
	}
	return v.Con + strconv.Itoa(v.Num) + "[" + strconv.Itoa(len(v.Args)) + "]"
}

// keep returns a function that reports whether a value is as it was.
func keep(v api.Value) func() bool {
	before := show(v)
	return func() bool { return show(v) == before }
}

// smear changes all values of a result in its memory, and behind it.
func smear(v api.Value) {
	for i := range v.Args {
		smear(v.Args[i])
	}
	for i := range v.Args {
		v.Args[i] = con("Smear")
	}
	_ = append(v.Args, con("Smear"), con("Smear"))
}
