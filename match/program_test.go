package match

import (
	"slices"
	"strconv"
	"strings"
	"testing"

	"restitch/api"
	"restitch/derive"
)

func derived(t *testing.T, text string) (api.Program, api.Derivation) {
	t.Helper()
	p := program(text)
	d, e := derive.Derive(p)
	if e != api.OK {
		t.Fatalf("no derivation of %s: error %d", text, e)
	}
	return p, d
}

func showBlame(b api.Blame) string {
	return strconv.Itoa(b.Decl) + "." + strconv.Itoa(b.Fun) + " " + showPath(b.Path)
}

// P5.1: the first case of a program whose patterns do not cover, or one of which is useless.
func TestCheckProgram(t *testing.T) {
	for _, c := range []struct {
		text, at string
		want     api.Errno
	}{
		{"", "0.0 ", api.OK},
		{"val n = 3;", "0.0 ", api.OK},
		{"fun f l = case l of Nil => 0 | Cons h t => f t end;", "0.0 ", api.OK},
		{"fun f l = case l of Nil => 0 end;", "1.0 ", api.ErrOpen},
		{"fun f l = case l of Nil => 0 | x => 1 | Cons _ _ => 2 end;", "1.0 ", api.ErrIdle},
		{"fun f l = case l of Nil => 0 | Nil => 1 end;", "1.0 ", api.ErrOpen},
		{"fun f l = 1 + (case l of Nil => 0 end);", "1.0 1", api.ErrOpen},
		{"fun f l = l and g l = case l of Nil => 0 end;", "1.1 ", api.ErrOpen},
		{"val a = 1; val b = fn l => case l of Nil => 0 end; val c = fn l => case l of Nil => 0 end;", "2.0 0", api.ErrOpen},
		{"data L = N | C Int L; input i : L; output a = 1; output b = case i of N => 0 end;", "4.0 ", api.ErrOpen},
		{"fun f l = case l of Nil => 0 | Cons a r => (case r of Nil => 0 end) end;", "1.0 2", api.ErrOpen},
		{"fun f l = case (case l of Nil => 0 end) of x => 0 | y => 1 end;", "1.0 ", api.ErrIdle},
		{"fun f l = case (case l of Nil => 0 end) of x => 0 end;", "1.0 0", api.ErrOpen},
		{"fun f l = (case l of Nil => 0 end, case l of Nil => 0 | _ => 1 | _ => 2 end);", "1.0 0", api.ErrOpen},
		{"fun f l = (case l of Nil => 0 | _ => 1 end, case l of Nil => 0 | _ => 1 | _ => 2 end);", "1.0 1", api.ErrIdle},
		{"fun f x = if x then 1 else 2;", "0.0 ", api.OK},
		{"fun f x = case x of y => 1 end;", "0.0 ", api.OK},
		{"fun f x = case x of y => 1 | z => 2 end;", "1.0 ", api.ErrIdle},
		{"fun f x = case x of (True, y) => y | (False, y) => y + 1 end;", "0.0 ", api.OK},
		{"fun f x = case x of (True, Nil) => 0 | (_, Cons y _) => y end;", "1.0 ", api.ErrOpen},
		{"fun f g = let fun h x = case g x of Nil => 0 end in h;", "1.0 0", api.ErrOpen},
		{"val v = case P 1 Nil of P _ (Cons _ _) => 0 | P x Nil => x end; data Pair 'a 'b = P 'a 'b;", "0.0 ", api.OK},
		{"val v = case P 1 Nil of P _ (Cons _ _) => 0 end; data Pair 'a 'b = P 'a 'b;", "1.0 ", api.ErrOpen},
	} {
		p, d := derived(t, "data List 'a = Nil | Cons 'a (List 'a);"+c.text)
		at, e := CheckProgram(p, d)
		errs(t, c.text, e, c.want)
		same(t, c.text, showBlame(at), c.at)
	}
}

// P5.1: the errors of the patterns of a case.
func TestCheckProgramPats(t *testing.T) {
	arms := func(n int) string {
		var l []string
		for k := range n {
			l = append(l, "("+strings.Repeat("True, ", 3)+[]string{"True", "False"}[k%2]+") => "+strconv.Itoa(k))
		}
		return "fun f x = case x of " + strings.Join(l, " | ") + " | _ => 0 end;"
	}
	deep := func(n int) string {
		return "data S = S S; fun f x = case x of " + strings.Repeat("S (", n-1) + "_" + strings.Repeat(")", n-1) + " => 0 end;"
	}
	for _, c := range []struct {
		text, at string
		want     api.Errno
	}{
		{arms(2), "0.0 ", api.OK},
		{arms(11), "0.0 ", api.ErrIdle},
		{arms(12), "0.0 ", api.ErrLong},
		{"val a = 1;" + arms(15), "1.0 ", api.ErrLong},
		{"fun g x = fn y => case x of True => 1 end;" + arms(15), "0.0 0", api.ErrOpen},
		{deep(60), "0.0 ", api.OK},
		{deep(61), "1.0 ", api.ErrDeep},
	} {
		p, d := derived(t, c.text)
		at, e := CheckProgram(p, d)
		errs(t, c.text, e, c.want)
		same(t, c.text, showBlame(at), c.at)
	}
}

// P5.1: programs and derivations that do not belong together.
func TestCheckProgramOthers(t *testing.T) {
	p, d := derived(t, "data List 'a = Nil | Cons 'a (List 'a); fun f l = case l of Nil => 0 | Cons h t => f t end; output o = case f of g => g Nil end;")
	for range 3 {
		CheckProgram(p, api.Derivation{})
		CheckProgram(api.Program{}, d)
		CheckProgram(p, api.Derivation{Bodies: make([]api.Typed, 5)})
		d.Bodies = d.Bodies[1:]
		CheckProgram(p, d)
		d = api.Derivation{Bodies: append(d.Bodies, api.Typed{Args: []api.Typed{{Type: endlessType(), Args: []api.Typed{{Type: endlessType()}}}}})}
	}
	loop := api.Expr{Kind: api.ECase, Args: make([]api.Expr, 3), Pats: pats("True; False")}
	loop.Args[0], loop.Args[1], loop.Args[2] = loop, loop, loop
	types := api.Typed{Type: typ("Bool"), Args: make([]api.Typed, 3)}
	types.Args[0], types.Args[1], types.Args[2] = types, types, types
	odd := api.Derivation{Bodies: []api.Typed{{Args: []api.Typed{types}}}}
	for _, kind := range []int{api.DVal, api.DOutput, api.DInput, api.DData, 0, 7} {
		CheckProgram(api.Program{Decls: []api.Decl{{Kind: kind, Body: loop}}}, odd)
	}
	loop.Pats = []api.Pat{endlessPat("True")}
	CheckProgram(api.Program{Decls: []api.Decl{{Kind: api.DFuns, Funs: make([]api.Fun, 100)}, {Kind: api.DVal, Body: loop}}}, odd)
	many := api.Expr{Kind: api.ECase, Pats: pats("True; False"), Args: slices.Repeat([]api.Expr{{Kind: api.ECase, Pats: pats("True; False; _")}}, 100000)}
	CheckProgram(api.Program{Decls: slices.Repeat([]api.Decl{{Kind: api.DVal, Body: many}}, 1000)}, odd)
}

// sum returns an expression of n nodes, an odd number.
func sum(n int) api.Expr {
	if n == 1 {
		return api.Expr{Kind: api.ENum}
	}
	left := n/4*2 + 1
	return api.Expr{Kind: api.EOp, Name: "+", Args: []api.Expr{sum(min(left, n-2)), sum(n - 1 - min(left, n-2))}}
}

// P5.1: the greatest programs are looked at as others are, in a short time.
func TestCheckProgramLarge(t *testing.T) {
	var text strings.Builder
	text.WriteString("fun f x = 0")
	for k := range 110 {
		text.WriteString(" and f" + strconv.Itoa(k) + " x = case x of (True, (False, y)) => 1 | (_, (z, True)) => 2 | u => 3 end")
		if k%15 == 14 {
			text.WriteString("; fun g" + strconv.Itoa(k) + " x = 0")
		}
	}
	p, d := derived(t, text.String()+";")
	at, e := CheckProgram(p, d)
	errs(t, "large", e, api.OK)
	same(t, "large", showBlame(at), "0.0 ")

	p = program("val a = 1; val b = 2;")
	p.Decls[0].Body = sum(1999)
	d, e = derive.Derive(p)
	errs(t, "2000 expressions", e, api.OK)
	_, e = CheckProgram(p, d)
	errs(t, "2000 expressions", e, api.OK)

	// The deepest case is at 99, as something is within it.
	p, d = derived(t, "fun f x = "+strings.Repeat("1 + (", 98)+"case x of True => 1 end"+strings.Repeat(")", 98)+";")
	at, e = CheckProgram(p, d)
	errs(t, "deep", e, api.ErrOpen)
	same(t, "deep", showPath(at.Path), strings.Join(slices.Repeat([]string{"1"}, 98), " "))
}

// P5.1: the path is new memory.
func TestBlameNew(t *testing.T) {
	p, d := derived(t, "data L = N | C Int L; fun f l = 1 + (2 * (case l of N => 0 end));")
	first, _ := CheckProgram(p, d)
	first.Path[0] = 9
	again, _ := CheckProgram(p, d)
	same(t, "again", showBlame(again), "1.0 1 1")
}
