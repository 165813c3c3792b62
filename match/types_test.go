package match

import (
	"slices"
	"strconv"
	"strings"
	"testing"

	"restitch/api"
)

// many returns n declarations, or constructors, made by a function.
func many[T any](n int, make func(k int) T) (result []T) {
	for k := range n {
		result = append(result, make(k))
	}
	return result
}

func data(name string, cons ...api.Con) api.Data { return api.Data{Name: name, Cons: cons} }

func oneCon(name string, args ...api.Type) api.Con { return api.Con{Name: name, Args: args} }

func numberedCon(k int) api.Con   { return api.Con{Name: "C" + strconv.Itoa(k)} }
func numberedData(k int) api.Data { return data("D"+strconv.Itoa(k), numberedCon(k)) }
func numberedVar(k int) string    { return "'a" + strconv.Itoa(k) }

// P5.1: which data declarations are valid.
func TestCheckDatas(t *testing.T) {
	for _, text := range []string{
		"", library,
		"data X = Int | Bool;", "data False = X; data True = Y;", "data X = X;",
		"data X = A Y; data Y = B X;",
		"data X 'a 'b = A ('a -> 'b) ('a, 'b, Int, X 'b 'a);",
		"data X 'a = A (X (X (Int, Bool)));", "data X 'a = A ('a, X 'a);", "data X 'a = A (X 'a -> X Int);", "data X 'a = A Bool;",
	} {
		errs(t, text, CheckDatas(datas(text)), api.OK)
	}
	for _, text := range []string{
		"data X = A | A;", "data X = A; data Y = A;", "data X = A; data X = B;", "data Int = A;", "data Bool = A;",
		"data X = False;", "data X = True;", "data X 'a 'a = A;",
		"data X = A Y;", "data X = A 'a;", "data X 'a = A 'b;", "data X 'a = A ('a -> 'b);", "data X 'a = A (X 'b);", "data X 'a = A X;", "data X = A (X Int);",
		"data X = A (Int Int);", "data X = A (Bool Int);",
		"data X 'a = A (X (X 'a));", "data X 'a = A (X ('a, Int));", "data X 'a = A (Int -> X (Int -> 'a));", "data Y 'b = B; data X 'a = A ((Y (Y 'a)), Int);",
		"data X 'a = A (X Y);",
	} {
		errs(t, text, CheckDatas(datas(text)), api.ErrData)
	}
	// The same variable may stand in more than one declaration.
	errs(t, "'a twice", CheckDatas(datas("data X 'a = A 'a; data Y 'a = B (X 'a);")), api.OK)
}

// P5.1: the limits of declarations, and names of other forms.
func TestCheckDatasLimits(t *testing.T) {
	ints := func(n int) []api.Type { return many(n, func(int) api.Type { return typ("Int") }) }
	for what, ds := range map[string][]api.Data{
		"60 declarations": many(60, numberedData),
		"16 constructors": {data("X", many(16, numberedCon)...)},
		"16 fields":       {data("X", oneCon("A", ints(16)...))},
		"16 variables":    {{Name: "X", Vars: many(16, numberedVar), Cons: []api.Con{oneCon("A")}}},
		"a type 100 deep": append(datas("data List 'a = Nil;"), data("X", oneCon("A", chain(100, typ("Int"))))),
		"none":            nil,
	} {
		errs(t, what, CheckDatas(ds), api.OK)
	}
	for what, ds := range map[string][]api.Data{
		"61 declarations":    many(61, numberedData),
		"no constructor":     {data("X")},
		"17 constructors":    {data("X", many(17, numberedCon)...)},
		"17 fields":          {data("X", oneCon("A", ints(17)...))},
		"17 variables":       {{Name: "X", Vars: many(17, numberedVar), Cons: []api.Con{oneCon("A")}}},
		"a type 101 deep":    append(datas("data List 'a = Nil;"), data("X", oneCon("A", chain(101, typ("Int"))))),
		"no name":            {data("", oneCon("A"))},
		"a small name":       {data("x", oneCon("A"))},
		"a small con":        {data("X", oneCon("a"))},
		"no con":             {data("X", oneCon(""))},
		"a tuple":            {data(",", oneCon("A"))},
		"a tuple's con":      {data("X", oneCon(","))},
		"an arrow":           {data("->", oneCon("A"))},
		"a long name":        {data("X"+strings.Repeat("x", api.MaxName), oneCon("A"))},
		"no variable":        {{Name: "X", Vars: []string{"a"}, Cons: []api.Con{oneCon("A")}}},
		"an empty variable":  {{Name: "X", Vars: []string{""}, Cons: []api.Con{oneCon("A")}}},
		"an empty type":      {data("X", oneCon("A", api.Type{}))},
		"an endless type":    {data("X", oneCon("A", endlessType()))},
		"a vast, wrong type": {data("X", oneCon("A", vastType(100, typ("'a"))))},
		"a small type":       {data("X", oneCon("A", api.Type{Name: "int"}))},
		"a variable of Args": {{Name: "X", Vars: []string{"'a"}, Cons: []api.Con{oneCon("A", api.Type{Name: "'a", Args: ints(1)})}}},
		"an arrow of one":    {data("X", oneCon("A", api.Type{Name: "->", Args: ints(1)}))},
		"an arrow of three":  {data("X", oneCon("A", api.Type{Name: "->", Args: ints(3)}))},
		"a tuple of one":     {data("X", oneCon("A", api.Type{Name: ",", Args: ints(1)}))},
		"a tuple of five":    {data("X", oneCon("A", api.Type{Name: ",", Args: ints(5)}))},
	} {
		errs(t, what, CheckDatas(ds), api.ErrData)
	}
	errs(t, "a vast type", CheckDatas([]api.Data{data("X", oneCon("A", vastType(100, typ("Int"))))}), api.OK)
	vast := api.Data{Name: "X", Vars: []string{"'a"}, Cons: []api.Con{oneCon("A", vastType(100, typ("'a")))}}
	errs(t, "a vast type of variables", CheckDatas([]api.Data{vast}), api.OK)
	errs(t, "its instance", CheckPat([]api.Data{vast}, typ("X Int"), con("A", vastPat(99, named("x")))), api.ErrVars)
}

// P5.1: which types are valid.
func TestCheckType(t *testing.T) {
	ds := datas(library)
	for _, text := range []string{"Int", "Bool", "'a", "Int -> 'b", "('a, Int)", "(Int, Int, Int, Int)", "List (List ('a -> Tree))", "Pair Int (Pair 'a Bool)", "Fun"} {
		errs(t, text, CheckType(ds, typ(text)), api.OK)
	}
	for _, text := range []string{"X", "List", "List Int Int", "Tree Int", "Int Int", "Bool Int", "Pair Int", "List (List X)", "Int -> List", "(Int, Tree Tree)"} {
		errs(t, text, CheckType(ds, typ(text)), api.ErrData)
	}
	for _, u := range []api.Type{{}, {Name: "a"}, {Name: "'"}, {Name: "'a", Args: typs("Int")}, {Name: "->"}, {Name: ","}, {Name: ",", Args: typs("Int")},
		{Name: ",", Args: typs("Int", "Int", "Int", "Int", "Int")}, {Name: "->", Args: typs("Int")}, {Name: "->", Args: typs("Int", "Int", "Int")},
		endlessType(), chain(101, typ("Int")), vastType(101, typ("Int")), vastType(100, typ("X"))} {
		errs(t, u.Name, CheckType(ds, u), api.ErrData)
	}
	errs(t, "100 deep", CheckType(ds, chain(100, typ("Int"))), api.OK)
	errs(t, "vast", CheckType(ds, vastType(100, typ("'a"))), api.OK)
	errs(t, "no declarations", CheckType(nil, typ("Bool -> Int")), api.OK)
	errs(t, "wrong declarations", CheckType(datas("data X = A | A;"), typ("Int")), api.ErrData)

	// A part that is met again further within may be too deep there.
	part := chain(60, typ("Int"))
	shared := api.Type{Name: ",", Args: []api.Type{part, {}}}
	shared.Args[1] = api.Type{Name: "List", Args: shared.Args[:1]}
	errs(t, "shared", CheckType(ds, shared), api.OK)
	for range 38 {
		shared.Args[1] = api.Type{Name: "List", Args: []api.Type{shared.Args[1]}}
	}
	errs(t, "shared, 100 deep", CheckType(ds, shared), api.OK)
	shared.Args[1] = api.Type{Name: "List", Args: []api.Type{shared.Args[1]}}
	errs(t, "shared, 101 deep", CheckType(ds, shared), api.ErrData)
}

// P5.1: the constructors of types.
func TestConstructors(t *testing.T) {
	ds := datas(library)
	for text, want := range map[string]string{
		"List Int":                  "Nil | Cons(Int)(List(Int))",
		"(Int, Bool)":               ",(Int)(Bool)",
		"Bool":                      "False | True",
		"Int":                       "",
		"'a":                        "",
		"Int -> Int":                "",
		"('a, List Int, Int -> 'a)": ",('a)(List(Int))(->(Int)('a))",
		"Pair 'b 'a":                "Pr('b)('a)",
		"Both ('a, Int)":            "Two(,(,('a)(Int))(,('a)(Int))) | One(,('a)(Int))",
		"Tree":                      "Leaf | Node(Tree)(Int)(Tree)",
		"Fun":                       "F(->(Int)(Four))",
	} {
		got, e := Constructors(ds, typ(text))
		errs(t, text, e, api.OK)
		same(t, text, showCons(got), want)
	}
	for _, text := range []string{"X", "List", "Pair Int"} {
		got, e := Constructors(ds, typ(text))
		errs(t, text, e, api.ErrData)
		same(t, text, showCons(got), "")
	}
	got, e := Constructors(datas("data X = A | A;"), typ("Int"))
	errs(t, "wrong declarations", e, api.ErrData)
	same(t, "wrong declarations", showCons(got), "")
	_, e = Constructors(nil, endlessType())
	errs(t, "endless", e, api.ErrData)
	// The variables of a declaration may stand in its Args, in another order.
	got, _ = Constructors(datas("data P 'a 'b = Q 'a 'b (P 'b 'a) ('a -> 'b);"), typ("P 'b (List2 'a)"))
	same(t, "an unknown type", showCons(got), "")
	got, _ = Constructors(datas("data P 'a 'b = Q 'a 'b (P 'b 'a) ('a -> 'b);"), typ("P 'b (P 'a 'c)"))
	same(t, "exchanged", showCons(got), "Q('b)(P('a)('c))(P(P('a)('c))('b))(->('b)(P('a)('c)))")
}

// P5.1: the fields of a valid type may be deeper than a valid type is.
func TestConstructorsDeep(t *testing.T) {
	ds := datas("data List 'a = Nil | Cons 'a (List 'a); data Box 'a = X (('a, Int), Int) | Y 'a;")
	box := api.Type{Name: "Box", Args: []api.Type{chain(99, typ("Int"))}}
	got, e := Constructors(ds, box)
	errs(t, "100 deep", e, api.OK)
	if len(got) != 2 || showType(got[0].Args[0].Args[0].Args[0]) != showType(chain(99, typ("Int"))) {
		t.Errorf("the field is %s", showCons(got))
	}
	errs(t, "a pattern", CheckPat(ds, box, pat("X ((Cons x _, _), _)")), api.OK)
	_, e = Constructors(ds, vastType(100, typ("Int")))
	errs(t, "a result that no memory holds", e, api.ErrLarge)
	got, e = Constructors(ds, vastType(10, typ("Int")))
	errs(t, "1022 types", e, api.OK)
	if n := strings.Count(showCons(got), "Int"); n != 512 {
		t.Errorf("%d times Int", n)
	}
	box.Args = []api.Type{chain(100, typ("Int"))}
	_, e = Constructors(ds, box)
	errs(t, "101 deep", e, api.ErrData)
}

// P5.1: results are new memory, arguments stay as they are.
func TestConstructorsNew(t *testing.T) {
	ds := datas(library)
	args := typs("List Int")
	u := api.Type{Name: "Both", Args: args}
	got, _ := Constructors(ds, u)
	pair := got[0].Args[0]
	pair.Args[0].Args[0].Name = "X"
	got[1].Args[0].Args[0].Name = "Y"
	same(t, "beside it", showType(pair.Args[1]), "List(Int)")
	same(t, "the argument", showType(u), "Both(List(Int))")
	tuples, _ := Constructors(ds, api.Type{Name: ",", Args: args[:1:1]})
	same(t, "a tuple of one", showCons(tuples), "")
	two := typs("Int", "List Int")
	tuples, _ = Constructors(ds, api.Type{Name: ",", Args: two})
	tuples[0].Args[1].Args[0].Name = "X"
	same(t, "the tuple", showType(two[1]), "List(Int)")
	if again, _ := Constructors(ds, u); showCons(again) != "Two(,(List(Int))(List(Int))) | One(List(Int))" {
		t.Errorf("now it is %s", showCons(again))
	}
	if !slices.Equal(ds[0].Vars, []string{"'a"}) || showCons(ds[0].Cons) != "Nil | Cons('a)(List('a))" {
		t.Error("the declarations are changed")
	}
}
