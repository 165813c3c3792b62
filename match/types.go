package match

import (
	"math"
	"slices"

	"restitch/api"
	"restitch/lex"
)

const (
	integer  = "Int"
	boolean  = "Bool"
	arrow    = "->"
	tuple    = ","
	maxTuple = 4
)

// mostBuilt is how many types a result has at most: 40 bytes each, so that they are no more than 2^31 - 1 bytes.
const mostBuilt = math.MaxInt32 / 40

// shape is a type's name and the numbers of its Args, which begin at 1.
type shape struct {
	name string
	args [api.MaxArms]int
}

// numbered is a type that has a number, and what is known of it.
type numbered struct {
	shape
	count int  // of its Args
	deep  int  // how many types lie within each other
	size  int  // how many types lie within it, mostBuilt + 1 if there are more
	open  bool // whether it has variables
}

// maker is a constructor, with the numbers of the types of its fields.
type maker struct {
	name   string
	fields []int
}

// declared is a data type as it was declared.
type declared struct {
	vars []string
	cons []maker
}

// types are the types for some data declarations. Equal types have one number, so that a type whose parts are shared is no greater than its memory.
type types struct {
	datas   map[string]declared
	all     []numbered
	numbers map[shape]int
	met     map[*api.Type]int
	made    map[int][]maker
}

// typesOf returns the types for data declarations, if these are valid.
func typesOf(ds []api.Data) (*types, api.Errno) {
	u := &types{
		datas:   map[string]declared{boolean: {cons: []maker{{name: "False"}, {name: "True"}}}},
		all:     make([]numbered, 1),
		numbers: map[shape]int{},
		met:     map[*api.Type]int{},
		made:    map[int][]maker{},
	}
	if !u.takeNames(ds) {
		return nil, api.ErrData
	}
	for _, d := range ds {
		if !u.takeFields(d) {
			return nil, api.ErrData
		}
	}
	return u, api.OK
}

// typeFor returns the types for data declarations and the number of a type, if all are valid.
func typeFor(ds []api.Data, t api.Type) (*types, int, api.Errno) {
	u, e := typesOf(ds)
	if e != api.OK {
		return nil, 0, e
	}
	number, e := u.valid(t)
	return u, number, e
}

// takeNames reports whether all is valid that can be seen without the types of fields.
func (u *types) takeNames(ds []api.Data) bool {
	if len(ds) > api.MaxDecls {
		return false
	}
	cons := map[string]bool{"False": true, "True": true}
	for _, d := range ds {
		_, twice := u.datas[d.Name]
		if twice || d.Name == integer || !lex.IsCon(d.Name) || !areVars(d.Vars) {
			return false
		}
		if len(d.Cons) == 0 || len(d.Cons) > api.MaxArms {
			return false
		}
		for _, c := range d.Cons {
			if cons[c.Name] || !lex.IsCon(c.Name) || len(c.Args) > api.MaxArms {
				return false
			}
			cons[c.Name] = true
		}
		u.datas[d.Name] = declared{vars: d.Vars}
	}
	return true
}

// areVars reports whether names can be the variables of a declaration.
func areVars(names []string) bool {
	if len(names) > api.MaxArms {
		return false
	}
	seen := map[string]bool{}
	for _, name := range names {
		if seen[name] || !lex.IsVar(name) {
			return false
		}
		seen[name] = true
	}
	return true
}

// takeFields reports whether the fields of a declaration have valid types, and keeps its constructors.
func (u *types) takeFields(d api.Data) bool {
	result := u.datas[d.Name]
	looked := map[int]bool{}
	for _, c := range d.Cons {
		m := maker{name: c.Name}
		for _, t := range c.Args {
			number, e := u.valid(t)
			if e != api.OK || !u.regular(number, result.vars, looked) {
				return false
			}
			m.fields = append(m.fields, number)
		}
		result.cons = append(result.cons, m)
	}
	u.datas[d.Name] = result
	return true
}

// regular reports whether a type has no other variables, and none within an Arg of a data type but as this Arg.
func (u *types) regular(number int, vars []string, looked map[int]bool) bool {
	t := u.all[number]
	if !t.open || looked[number] {
		return true
	}
	looked[number] = true
	if t.isVar() {
		return slices.Contains(vars, t.name)
	}
	_, isData := u.datas[t.name]
	for _, a := range t.args[:t.count] {
		arg := u.all[a]
		if isData && arg.open && !arg.isVar() || !u.regular(a, vars, looked) {
			return false
		}
	}
	return true
}

// isVar: only a variable has variables without having Args.
func (t numbered) isVar() bool { return t.open && t.count == 0 }

// valid returns the number of a valid type.
func (u *types) valid(t api.Type) (int, api.Errno) {
	number := u.number(&t, api.MaxDeep)
	if number == 0 || u.all[number].deep > api.MaxDeep {
		return 0, api.ErrData
	}
	return number, api.OK
}

// number returns the number of a type whose names are valid, 0 if one is not, or if the type is seen to be too deep.
func (u *types) number(t *api.Type, most int) int {
	if known, ok := u.met[t]; ok {
		return known
	}
	if most == 0 || !u.isFormed(*t) {
		return 0
	}
	s := shape{name: t.Name}
	for i := range t.Args {
		s.args[i] = u.number(&t.Args[i], most-1)
		if s.args[i] == 0 {
			return 0
		}
	}
	number := u.add(s, len(t.Args))
	u.met[t] = number
	return number
}

// isFormed looks at a type without those within it.
func (u *types) isFormed(t api.Type) bool {
	n := len(t.Args)
	switch t.Name {
	case integer:
		return n == 0
	case arrow:
		return n == 2
	case tuple:
		return n >= 2 && n <= maxTuple
	}
	if d, ok := u.datas[t.Name]; ok {
		return n == len(d.vars)
	}
	return n == 0 && lex.IsVar(t.Name)
}

// add returns the number of a type whose Args have numbers.
func (u *types) add(s shape, count int) int {
	if known, ok := u.numbers[s]; ok {
		return known
	}
	t := numbered{shape: s, count: count, deep: 1, size: 1, open: lex.IsVar(s.name)}
	for _, a := range s.args[:count] {
		arg := u.all[a]
		t.deep = max(t.deep, arg.deep+1)
		t.size = min(t.size+arg.size, mostBuilt+1)
		t.open = t.open || arg.open
	}
	u.numbers[s] = len(u.all)
	u.all = append(u.all, t)
	return u.numbers[s]
}

// constructors yields the constructors of a type, in order, with their fields.
func (u *types) constructors(number int) func(yield func(string, []int) bool) {
	return func(yield func(string, []int) bool) {
		for _, m := range u.makers(number) {
			if !yield(m.name, m.fields) {
				return
			}
		}
	}
}

func (u *types) makers(number int) []maker {
	if made, ok := u.made[number]; ok {
		return made
	}
	t := u.all[number]
	var made []maker
	if d, ok := u.datas[t.name]; ok {
		made = u.instances(d, t)
	} else if t.name == tuple {
		args := t.args
		made = []maker{{name: tuple, fields: args[:t.count]}}
	}
	u.made[number] = made
	return made
}

// instances returns the constructors of a data type for its Args.
func (u *types) instances(d declared, t numbered) (result []maker) {
	of := map[string]int{}
	for i, name := range d.vars {
		of[name] = t.args[i]
	}
	done := map[int]int{}
	for _, c := range d.cons {
		m := maker{name: c.name}
		for _, f := range c.fields {
			m.fields = append(m.fields, u.put(f, of, done))
		}
		result = append(result, m)
	}
	return result
}

// put returns a type with others in the place of its variables.
func (u *types) put(number int, of map[string]int, done map[int]int) int {
	t := u.all[number]
	switch known := done[number]; {
	case !t.open:
		return number
	case t.isVar():
		return of[t.name]
	case known != 0:
		return known
	}
	s := t.shape
	for i := range t.count {
		s.args[i] = u.put(t.args[i], of, done)
	}
	done[number] = u.add(s, t.count)
	return done[number]
}

// constructor returns the fields of a type's constructor.
func (u *types) constructor(number int, name string) ([]int, bool) {
	for con, fields := range u.constructors(number) {
		if con == name {
			return fields, true
		}
	}
	return nil, false
}

// built returns the constructors of a type as results have them.
func (u *types) built(number int) (result []api.Con, e api.Errno) {
	size := 0
	for _, fields := range u.constructors(number) {
		for _, f := range fields {
			size += u.all[f].size
		}
	}
	if size > mostBuilt {
		return nil, api.ErrLarge
	}
	for con, fields := range u.constructors(number) {
		result = append(result, api.Con{Name: con, Args: u.typesBuilt(fields)})
	}
	return result, api.OK
}

func (u *types) typesBuilt(numbers []int) (result []api.Type) {
	for _, number := range numbers {
		t := u.all[number]
		result = append(result, api.Type{Name: t.name, Args: u.typesBuilt(t.args[:t.count])})
	}
	return result
}
