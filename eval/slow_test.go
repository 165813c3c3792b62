package eval

import (
	"maps"
	"math/big"
	"testing"

	"restitch/api"
	"restitch/syntax"
)

// slowFun is a function of a slow run.
type slowFun struct {
	arg  string
	body api.Expr
	env  map[string]any
}

// slowCon is a constructor, or a tuple, of a slow run.
type slowCon struct {
	name   string
	fields []any
}

// slow runs programs as the chapter says it, with copies of whole environments; what follows an evaluation is a function.
type slow struct {
	fuel, steps int
	e           api.Errno
}

func with(env map[string]any, name string, v any) map[string]any {
	env = maps.Clone(env)
	env[name] = v
	return env
}

func (s *slow) eval(x api.Expr, env map[string]any, then func(any)) {
	if s.steps == s.fuel {
		s.e = api.ErrFuel
		return
	}
	s.steps++
	switch x.Kind {
	case api.ENum:
		then(x.Num)
	case api.EVar:
		if v, ok := env[x.Name]; ok {
			then(v)
		} else {
			s.e = api.ErrStuck
		}
	case api.ECon:
		s.all(x.Args, env, nil, func(l []any) { then(slowCon{x.Name, l}) })
	case api.EApp:
		s.all(x.Args, env, nil, func(l []any) {
			if f, ok := l[0].(slowFun); ok {
				s.eval(f.body, with(f.env, f.arg, l[1]), then)
			} else {
				s.e = api.ErrStuck
			}
		})
	case api.EFn:
		then(slowFun{x.Arg, x.Args[0], env})
	case api.ELet:
		s.eval(x.Args[0], env, func(v any) { s.eval(x.Args[1], with(env, x.Name, v), then) })
	case api.ERec:
		f := slowFun{x.Arg, x.Args[0], maps.Clone(env)}
		f.env[x.Name] = f
		s.eval(x.Args[1], f.env, then)
	case api.ECase:
		s.eval(x.Args[0], env, func(v any) { s.arms(x, v, env, then) })
	case api.EOp:
		s.all(x.Args, env, nil, func(l []any) { s.op(x.Name, l, then) })
	}
}

func (s *slow) all(l []api.Expr, env map[string]any, done []any, then func([]any)) {
	if len(l) == 0 {
		then(done)
		return
	}
	s.eval(l[0], env, func(v any) { s.all(l[1:], env, append(done[:len(done):len(done)], v), then) })
}

func (s *slow) arms(x api.Expr, v any, env map[string]any, then func(any)) {
	for i, p := range x.Pats {
		if inner := maps.Clone(env); slowMatch(p, v, inner) {
			s.eval(x.Args[i+1], inner, then)
			return
		}
	}
	s.e = api.ErrMatch
}

func slowMatch(p api.Pat, v any, env map[string]any) bool {
	switch p.Kind {
	case api.PVar:
		env[p.Name] = v
	case api.PCon:
		c, ok := v.(slowCon)
		if !ok || c.name != p.Name || len(c.fields) != len(p.Args) {
			return false
		}
		for i, a := range p.Args {
			if !slowMatch(a, c.fields[i], env) {
				return false
			}
		}
	}
	return true
}

func (s *slow) op(name string, l []any, then func(any)) {
	a, ok := l[0].(int)
	b, also := l[1].(int)
	if !ok || !also {
		s.e = api.ErrStuck
		return
	}
	v := slowOp(name, a, b)
	if v.Con == "" {
		then(v.Num)
	} else {
		then(slowCon{name: v.Con})
	}
}

// slowOp computes with integers of any size, and puts the result into the range of 64 bits.
func slowOp(name string, a, b int) api.Value {
	x, y, z := big.NewInt(int64(a)), big.NewInt(int64(b)), new(big.Int)
	switch name {
	case "+":
		z.Add(x, y)
	case "-":
		z.Sub(x, y)
	case "*":
		z.Mul(x, y)
	case "/":
		if b != 0 {
			z.Quo(x, y)
		}
	case "%":
		if b != 0 {
			z.Rem(x, y)
		}
	case "<":
		return con(map[bool]string{true: "True", false: "False"}[x.Cmp(y) < 0])
	case "=":
		return con(map[bool]string{true: "True", false: "False"}[x.Cmp(y) == 0])
	}
	most := new(big.Int).Lsh(big.NewInt(1), 64)
	z.Mod(z, most)
	if z.BitLen() == 64 {
		z.Sub(z, most)
	}
	return num(int(z.Int64()))
}

// slowOutput returns the value of an output: all that is in it is written down before it is looked at.
func slowOutput(v any) (api.Value, api.Errno) {
	var met []any
	var walk func(v any)
	walk = func(v any) {
		if len(met) > 2*api.MaxValue {
			return
		}
		met = append(met, v)
		if c, ok := v.(slowCon); ok {
			for _, f := range c.fields {
				walk(f)
			}
		}
	}
	walk(v)
	for i, v := range met {
		if i == api.MaxValue {
			return api.Value{}, api.ErrLarge
		}
		if _, ok := v.(slowFun); ok {
			return api.Value{}, api.ErrStuck
		}
	}
	return slowValue(v), api.OK
}

func slowValue(v any) api.Value {
	c, ok := v.(slowCon)
	if !ok {
		return num(v.(int))
	}
	result := con(c.name)
	for _, f := range c.fields {
		result.Args = append(result.Args, slowValue(f))
	}
	return result
}

// slowInput returns the value of an input as it is in a slow run.
func slowInput(v api.Value) any {
	if v.Con == "" {
		return v.Num
	}
	c := slowCon{name: v.Con}
	for _, a := range v.Args {
		c.fields = append(c.fields, slowInput(a))
	}
	return c
}

// slowRun runs a program for inputs that it has.
func slowRun(p api.Program, in []api.NamedValue, fuel int) (api.Outcome, api.Errno) {
	s := &slow{fuel: fuel}
	var outputs []api.NamedValue
	funs, all := map[string]any{}, map[string]any{}
	for _, d := range p.Decls {
		var result any
		keep := func(v any) { result = v }
		switch d.Kind {
		case api.DInput:
			all = with(all, d.Name, slowInput(in[0].Value))
			in = in[1:]
		case api.DFuns:
			funs, all = maps.Clone(funs), maps.Clone(all)
			for _, f := range d.Funs {
				funs[f.Name] = slowFun{f.Arg, f.Body, funs}
				all[f.Name] = funs[f.Name]
			}
		case api.DVal:
			s.eval(d.Body, all, keep)
			all = with(all, d.Name, result)
		case api.DOutput:
			s.eval(d.Body, all, keep)
			if s.e == api.OK {
				v, e := slowOutput(result)
				outputs, s.e = append(outputs, api.NamedValue{Name: d.Name, Value: v}), e
			}
		}
		if s.e != api.OK {
			return api.Outcome{}, s.e
		}
	}
	return api.Outcome{Outputs: outputs, Steps: s.steps}, api.OK
}

// P6.7: programs, whether they have types or not, run as the slow reading of the chapter does.
func TestRunSlow(t *testing.T) {
	d := newDice(7)
	count := map[api.Errno]int{}
	for range 20000 {
		p, in := d.untypedProgram()
		if syntax.Check(p) != api.OK {
			continue
		}
		fuel := pick(d, []int{1000, 1000, 100, 10, d.IntN(30)})
		got, e := Run(p, in, fuel)
		want, f := slowRun(p, in, fuel)
		count[e]++
		if e != f || !same(got, want) {
			text, _ := syntax.Print(p)
			t.Fatalf("Run of %s: %s, error %d; expected %s, error %d", text, showOutcome(got), e, showOutcome(want), f)
		}
	}
	if count[api.OK] < 3000 || count[api.ErrStuck] < 3000 || count[api.ErrMatch] < 500 || count[api.ErrFuel] < 500 {
		t.Errorf("the errors are %v", count)
	}
}
