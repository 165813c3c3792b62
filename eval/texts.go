package eval

import (
	"strings"

	"restitch/api"
	"restitch/lex"
)

func textOf(v api.Value) string {
	var text strings.Builder
	write(&text, v)
	return text.String()
}

// write adds the text of a valid value to a text.
func write(text *strings.Builder, v api.Value) {
	switch {
	case isInteger(v):
		text.WriteString(lex.Digits(v.Num))
	case v.Con == tuple:
		text.WriteByte('(')
		for i, a := range v.Args {
			if i > 0 {
				text.WriteString(", ")
			}
			write(text, a)
		}
		text.WriteByte(')')
	default:
		text.WriteString(v.Con)
		for _, a := range v.Args {
			text.WriteByte(' ')
			writeField(text, a)
		}
	}
}

func writeField(text *strings.Builder, v api.Value) {
	if len(v.Args) == 0 || v.Con == tuple {
		write(text, v)
		return
	}
	text.WriteByte('(')
	write(text, v)
	text.WriteByte(')')
}

// reader reads a value from the tokens that are left.
type reader struct {
	left []api.Token
	end  int // the length of the text
	open int // how many parentheses are open
}

// read returns the value whose tokens those of a text are, which need not be valid.
func read(text string) (v api.Value, at int, e api.Errno) {
	defer func() {
		if w, ok := recover().(wrong); ok {
			v, at, e = api.Value{}, w.at, w.e
		}
	}()
	tokens, at, e := lex.Scan(text)
	if e != api.OK {
		return api.Value{}, at, e
	}
	r := &reader{left: tokens, end: len(text)}
	v = r.value()
	if len(r.left) > 0 {
		r.fail()
	}
	return v, 0, api.OK
}

// peek returns the next token; at the end of the text one without a kind stands there.
func (r *reader) peek() api.Token {
	if len(r.left) == 0 {
		return api.Token{At: r.end}
	}
	return r.left[0]
}

func (r *reader) pass() { r.left = r.left[1:] }

// fail leaves at the next token, at which no value goes on.
func (r *reader) fail() { panic(wrong{r.peek().At, api.ErrForm}) }

func (r *reader) value() api.Value {
	t := r.peek()
	if t.Kind != api.TkCon {
		return r.field()
	}
	r.pass()
	v := api.Value{Con: t.Text}
	for !r.closes() {
		v.Args = append(v.Args, r.field())
	}
	return v
}

// closes reports whether a constructor takes no more values.
func (r *reader) closes() bool {
	t := r.peek()
	return len(r.left) == 0 || t.Text == ")" || t.Text == ","
}

// field reads an integer, a constructor without Args, or what stands between parentheses.
func (r *reader) field() api.Value {
	t := r.peek()
	switch {
	case t.Kind == api.TkNum:
		r.pass()
		return api.Value{Num: t.Num}
	case t.Kind == api.TkCon:
		r.pass()
		return api.Value{Con: t.Text}
	case t.Text == "(":
		return r.inner()
	}
	r.fail()
	return api.Value{}
}

// inner reads what stands between parentheses: one value, which is this itself, or a tuple.
func (r *reader) inner() api.Value {
	if r.open == api.MaxValue {
		panic(wrong{r.peek().At, api.ErrDeep})
	}
	r.open++
	r.pass()
	list := []api.Value{r.value()}
	for r.peek().Text == "," {
		r.pass()
		list = append(list, r.value())
	}
	if r.peek().Text != ")" {
		r.fail()
	}
	r.pass()
	r.open--
	if len(list) == 1 {
		return list[0]
	}
	return api.Value{Con: tuple, Args: list}
}
