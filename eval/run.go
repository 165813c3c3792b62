package eval

import "restitch/api"

// operate returns what an operator makes of two integers, if it is one.
func operate(name string, a, b int) (v api.Value, ok bool) {
	switch name {
	case "+":
		v.Num = a + b
	case "-":
		v.Num = a - b
	case "*":
		v.Num = a * b
	case "/":
		if b != 0 {
			v.Num = a / b
		}
	case "%":
		if b != 0 {
			v.Num = a % b
		}
	case "<":
		v.Con = truth(a < b)
	case "=":
		v.Con = truth(a == b)
	default:
		return v, false
	}
	return v, true
}

func truth(is bool) string {
	if is {
		return "True"
	}
	return "False"
}

// runner evaluates expressions; step is called when an evaluation begins.
type runner struct{ step func() }

// run returns what a program makes of its inputs.
func run(p api.Program, in []api.NamedValue, fuel int) (o api.Outcome, e api.Errno) {
	defer func() {
		if w, ok := recover().(wrong); ok {
			o, e = api.Outcome{}, w.e
		}
	}()
	steps := 0
	r := runner{step: func() {
		if steps == fuel {
			panic(wrong{e: api.ErrFuel})
		}
		steps++
	}}
	outputs := r.program(p, in)
	return api.Outcome{Outputs: outputs, Steps: steps}, api.OK
}

// program returns the outputs of a program. Functions at the top see just functions, its other bodies the inputs and values too.
func (r runner) program(p api.Program, in []api.NamedValue) (outputs []api.NamedValue) {
	var funs, all *env
	for i := range p.Decls {
		d := &p.Decls[i]
		switch d.Kind {
		case api.DInput:
			all = all.with(d.Name, live(in[0].Value))
			in = in[1:]
		case api.DFuns:
			funs, all = group(d.Funs, funs, all)
		case api.DVal:
			all = all.with(d.Name, r.eval(&d.Body, all))
		case api.DOutput:
			outputs = append(outputs, api.NamedValue{Name: d.Name, Value: output(r.eval(&d.Body, all))})
		}
	}
	return outputs
}

// group returns two environments with the functions of a group; the first one is that of their bodies.
func group(list []api.Fun, funs, all *env) (*env, *env) {
	var members []*function
	for i := range list {
		f := &function{param: list[i].Arg, body: &list[i].Body}
		members = append(members, f)
		funs, all = funs.with(list[i].Name, f), all.with(list[i].Name, f)
	}
	for _, f := range members {
		f.in = funs
	}
	return funs, all
}

func output(v value) api.Value {
	left := api.MaxValue
	return plain(v, func() {
		if left == 0 {
			panic(wrong{e: api.ErrLarge})
		}
		left--
	})
}

// eval returns the value of an expression.
func (r runner) eval(x *api.Expr, in *env) value {
	for {
		r.step()
		switch x.Kind {
		case api.ENum:
			return number(x.Num)
		case api.EVar:
			return in.find(x.Name)
		case api.ECon:
			return r.con(x, in)
		case api.EFn:
			return &function{x.Arg, &x.Args[0], in}
		case api.EOp:
			return r.op(x, in)
		}
		x, in = r.next(x, in)
	}
}

// next evaluates what an expression needs at first, and returns the expression whose value it has then, with the environment of this. (That one is evaluated by the caller, so that tail calls take no more room.)
func (r runner) next(x *api.Expr, in *env) (*api.Expr, *env) {
	switch x.Kind {
	case api.EApp:
		f := r.eval(&x.Args[0], in)
		arg := r.eval(&x.Args[1], in)
		if f, ok := f.(*function); ok {
			return f.called(arg)
		}
		panic(wrong{e: api.ErrStuck})
	case api.ELet:
		return &x.Args[1], in.with(x.Name, r.eval(&x.Args[0], in))
	case api.ERec:
		f := &function{param: x.Arg, body: &x.Args[0]}
		f.in = in.with(x.Name, f)
		return &x.Args[1], f.in
	}
	return arm(x, r.eval(&x.Args[0], in), in)
}

// arm returns the arm of a case that a value chooses, with its environment.
func arm(x *api.Expr, v value, in *env) (*api.Expr, *env) {
	for i := range x.Pats {
		if v.fits(&x.Pats[i]) {
			return &x.Args[i+1], in.withMatch(&x.Pats[i], v)
		}
	}
	panic(wrong{e: api.ErrMatch})
}

func (r runner) con(x *api.Expr, in *env) value {
	m := &made{con: x.Name}
	for i := range x.Args {
		m.fields = append(m.fields, r.eval(&x.Args[i], in))
	}
	return m
}

func (r runner) op(x *api.Expr, in *env) value {
	a := r.eval(&x.Args[0], in)
	b := r.eval(&x.Args[1], in)
	n, isNumber := a.(number)
	m, areNumbers := b.(number)
	if !isNumber || !areNumbers {
		panic(wrong{e: api.ErrStuck})
	}
	v, _ := operate(x.Name, int(n), int(m))
	return live(v)
}
