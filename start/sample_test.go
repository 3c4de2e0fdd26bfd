package start_test

import (
	"fmt"
	"math/rand/v2"
	"reflect"
	"slices"
	"strings"

	"reveille/api"
	"reveille/start"
)

// read is a variable that is read by a text: its name, or its package's path, a dot, and its name.
func read(what string, factor int64) start.Read {
	path, name := apart(what)
	return start.Read{Pack: path, Name: name, Factor: factor}
}

func call(what string) start.Call {
	path, name := apart(what)
	return start.Call{Pack: path, Name: name}
}

func apart(what string) (path, name string) {
	if path, name, ok := strings.Cut(what, "."); ok {
		return path, name
	}
	return "", what
}

// reads is an expression that reads these, each once; hides one that reads them unseen, calls one that calls these.
func reads(l ...string) start.Expr {
	var e start.Expr
	for _, what := range l {
		e.Reads = append(e.Reads, read(what, 1))
	}
	return e
}

func hides(l ...string) start.Expr { return start.Expr{Hidden: reads(l...).Reads} }

func calls(l ...string) start.Expr {
	var e start.Expr
	for _, what := range l {
		e.Calls = append(e.Calls, call(what))
	}
	return e
}

func variable(name string, size int, e start.Expr) start.Var {
	return start.Var{Name: name, Len: size, Expr: e}
}

func function(name string, e start.Expr) start.Func { return start.Func{Name: name, Expr: e} }

// alone is the plan of the package a with these variables.
func alone(l ...start.Var) start.Plan { return start.Plan{{Path: "a", Vars: l}} }

// withFuncs is a plan whose first package has these functions, withInits one whose first package has these init functions.
func withFuncs(p start.Plan, l ...start.Func) start.Plan {
	p = copied(p)
	p[0].Funcs = l
	return p
}

func withInits(p start.Plan, l ...[]start.Step) start.Plan {
	p = copied(p)
	p[0].Inits = l
	return p
}

func add(name string, at int, by int64) start.Step {
	return start.Step{Do: start.Add, Name: name, At: at, By: by}
}

func gain(name string, at int, what string, factor int64) start.Step {
	return start.Step{Do: start.Gain, Name: name, At: at, Read: read(what, factor)}
}

func enter() start.Step { return start.Step{Do: start.Enter} }

// families is the plan that chapter 13 tells.
func families() start.Plan {
	row := func(path string, imports []string, size int, base, step int64, reads []start.Read, first, second start.Step) start.Pack {
		table := start.Var{Name: "table", Len: size, Expr: start.Expr{Base: base, Step: step, Reads: reads}}
		return start.Pack{Path: path, Imports: imports, Vars: []start.Var{table}, Inits: [][]start.Step{{first}, {second}}}
	}
	of := func(l ...start.Read) []start.Read { return l }
	return start.Plan{
		row("crystal", nil, 32, 1000000, 1000000, nil, add("table", 0, -967232), add("table", 31, 68000000)),
		row("supply", []string{"crystal"}, 24, 300000, 12500, of(read("crystal.table", 1)), add("table", 0, 467232), add("table", 23, 412500)),
		row("bus", []string{"crystal", "supply"}, 20, 268435456, 65536, of(read("crystal.table", 1), read("supply.table", 4)), add("table", 0, 4096), gain("table", 19, "crystal.table", 2)),
		row("sensor", []string{"supply", "bus"}, 16, -200000, 10000, of(read("supply.table", 1)), add("table", 0, 25000), add("table", 15, 500000)),
		row("radio", []string{"bus", "sensor"}, 20, 160000000, 25000, of(read("bus.table", 1), read("sensor.table", 2)), add("table", 0, -2320), add("table", 19, -30640)),
		{Path: "roll", Imports: []string{"crystal", "supply", "bus", "sensor", "radio"}},
	}
}

// busy is a plan in which everything stands that a plan has.
func busy() start.Plan {
	return start.Plan{
		{
			Path:    "a",
			Imports: []string{"b", "c"},
			Vars: []start.Var{
				variable("x", 3, start.Expr{Base: 5, Step: 1, Reads: []start.Read{read("y", 2), read("b.v", 3)}, Calls: []start.Call{call("f"), call("b.f")}, Hidden: []start.Read{read("a.z", 4), read("d.v", 1)}}),
				variable("y", 1, start.Expr{Base: 3}),
				variable("z", 2, reads("y")),
			},
			Funcs: []start.Func{function("f", start.Expr{Base: 1, Step: 2, Reads: []start.Read{read("y", 7)}, Calls: []start.Call{call("g"), call("b.f")}, Hidden: []start.Read{read("x", 1)}}), function("g", start.Expr{Base: 9})},
			Inits: [][]start.Step{{add("x", 2, 10), enter()}, {gain("y", 0, "b.v", 2), gain("x", 1, "x", -1)}},
		},
		{Path: "b", Imports: []string{"c"}, Vars: []start.Var{variable("v", 2, start.Expr{Step: 1, Reads: []start.Read{read("c.v", 1)}})}, Funcs: []start.Func{function("f", reads("v"))}, Inits: [][]start.Step{{enter(), enter()}}},
		{Path: "c", Vars: []start.Var{variable("v", 4, start.Expr{Base: -1, Step: 3})}, Inits: [][]start.Step{nil, {gain("v", 3, "v", 1)}}},
		{Path: "d", Imports: []string{"a"}, Vars: []start.Var{variable("v", 1, reads("a.x"))}},
	}
}

// copied is a plan in memory of its own.
func copied(p start.Plan) start.Plan {
	expr := func(e start.Expr) start.Expr {
		e.Reads, e.Calls, e.Hidden = slices.Clone(e.Reads), slices.Clone(e.Calls), slices.Clone(e.Hidden)
		return e
	}
	p = slices.Clone(p)
	for i := range p {
		k := &p[i]
		k.Imports, k.Vars, k.Funcs, k.Inits = slices.Clone(k.Imports), slices.Clone(k.Vars), slices.Clone(k.Funcs), slices.Clone(k.Inits)
		for j := range k.Vars {
			k.Vars[j].Expr = expr(k.Vars[j].Expr)
		}
		for j := range k.Funcs {
			k.Funcs[j].Expr = expr(k.Funcs[j].Expr)
		}
		for j := range k.Inits {
			k.Inits[j] = slices.Clone(k.Inits[j])
		}
	}
	return p
}

// changed is a copy of a plan to which something was done.
func changed(p start.Plan, do func(p start.Plan)) start.Plan {
	p = copied(p)
	do(p)
	return p
}

// names are n names.
func names(of string, n int) []string {
	var l []string
	for i := range n {
		l = append(l, fmt.Sprint(of, i))
	}
	return l
}

// repeated are n times the same.
func repeated[T any](x T, n int) []T { return slices.Repeat([]T{x}, n) }

// vars are n variables.
func vars(n int) []start.Var {
	var l []start.Var
	for _, name := range names("v", n) {
		l = append(l, variable(name, 1, start.Expr{}))
	}
	return l
}

func funcs(n int) []start.Func {
	var l []start.Func
	for _, name := range names("f", n) {
		l = append(l, function(name, start.Expr{}))
	}
	return l
}

// packs are n packages; all import the ones ahead of them.
func packs(n int) start.Plan {
	var p start.Plan
	for _, path := range names("p", n) {
		p = append(p, start.Pack{Path: path, Imports: names("p", len(p)), Vars: vars(1)})
	}
	return p
}

// same says whether two lists are the same; an empty one may be nil.
func same[T any](a, b []T) bool {
	return len(a) == len(b) && (len(a) == 0 || reflect.DeepEqual(a, b))
}

// grower makes plans that hang on a seed alone.
type grower struct {
	*rand.Rand
	loose  bool // rings may come
	hidden bool
	p      start.Plan
}

// grown is a plan of a few packages; every fourth may have rings.
func grown(seed uint64, hidden bool) start.Plan {
	g := &grower{Rand: rand.New(rand.NewPCG(seed, 6)), loose: seed%4 == 3, hidden: hidden}
	paths := []string{"a", "b", "c", "d", "e-1", "0"}
	g.Shuffle(len(paths), func(i, k int) { paths[i], paths[k] = paths[k], paths[i] })
	for _, path := range paths[:1+g.IntN(5)] {
		g.p = append(g.p, start.Pack{Path: path})
	}
	for i := range g.p {
		k := &g.p[i]
		for j := range g.p {
			if i != j && (j < i && g.IntN(2) == 0 || g.loose && g.IntN(12) == 0) {
				k.Imports = append(k.Imports, g.p[j].Path)
			}
		}
		for _, name := range []string{"x", "y", "z", "w", "v"}[:g.IntN(6)] {
			k.Vars = append(k.Vars, variable(name, 1+g.IntN(4), start.Expr{}))
		}
		for _, name := range []string{"f", "g", "h"}[:g.IntN(4)] {
			k.Funcs = append(k.Funcs, function(name, start.Expr{}))
		}
	}
	for i := range g.p {
		g.fill(i)
	}
	return g.p
}

// fill makes a package's expressions and steps. Where no rings may come a thing leads only to things with a lesser rank; the ranks have nothing to do with the order of declaration.
func (g *grower) fill(i int) {
	k := &g.p[i]
	rank := g.Perm(len(k.Vars) + len(k.Funcs))
	for j := range k.Vars {
		k.Vars[j].Expr = g.expr(i, rank, rank[j])
	}
	for j := range k.Funcs {
		k.Funcs[j].Expr = g.expr(i, rank, rank[len(k.Vars)+j])
	}
	for range g.IntN(3) {
		var steps []start.Step
		for range g.IntN(4) {
			steps = append(steps, g.step(i))
		}
		k.Inits = append(k.Inits, steps)
	}
}

// expr is an expression of the package i; own is the rank of what it is of.
func (g *grower) expr(i int, rank []int, own int) start.Expr {
	e := start.Expr{Base: g.number(), Step: g.number()}
	k := g.p[i]
	may := func(place int) bool { return rank[place] < own || g.loose && g.IntN(3) == 0 }
	for range g.IntN(3) {
		q, path := g.other(i)
		if len(q.Vars) > 0 {
			if v := g.IntN(len(q.Vars)); path != "" || may(v) {
				e.Reads = append(e.Reads, start.Read{Pack: path, Name: q.Vars[v].Name, Factor: g.number()})
			}
		}
		q, path = g.other(i)
		if len(q.Funcs) > 0 {
			if f := g.IntN(len(q.Funcs)); path != "" || may(len(k.Vars)+f) {
				e.Calls = append(e.Calls, start.Call{Pack: path, Name: q.Funcs[f].Name})
			}
		}
	}
	for range g.IntN(2) {
		if q := g.p[g.IntN(len(g.p))]; g.hidden && len(q.Vars) > 0 {
			path := q.Path
			if path == k.Path && g.IntN(2) == 0 {
				path = ""
			}
			e.Hidden = append(e.Hidden, start.Read{Pack: path, Name: q.Vars[g.IntN(len(q.Vars))].Name, Factor: g.number()})
		}
	}
	return e
}

// other is a package that the package i sees, and what it calls it.
func (g *grower) other(i int) (start.Pack, string) {
	k := g.p[i]
	n := g.IntN(len(k.Imports) + 2)
	if n >= len(k.Imports) {
		return k, ""
	}
	at := slices.IndexFunc(g.p, func(q start.Pack) bool { return q.Path == k.Imports[n] })
	return g.p[at], k.Imports[n]
}

func (g *grower) step(i int) start.Step {
	k := g.p[i]
	q, path := g.other(i)
	if len(k.Vars) == 0 || len(q.Vars) == 0 || g.IntN(4) == 0 {
		return start.Step{Do: start.Enter, Name: "nobody", At: -7, By: 1, Read: read("nobody.x", 1)}
	}
	v := k.Vars[g.IntN(len(k.Vars))]
	s := start.Step{Do: start.Add, Name: v.Name, At: g.IntN(v.Len), By: g.number(), Read: read("nobody.y", 1)}
	if g.IntN(2) == 0 {
		s.Do, s.Read = start.Gain, start.Read{Pack: path, Name: q.Vars[g.IntN(len(q.Vars))].Name, Factor: g.number()}
	}
	return s
}

// number is a small number, or one that wraps soon.
func (g *grower) number() int64 {
	if g.IntN(3) == 0 {
		return int64(g.Uint64())
	}
	return int64(g.IntN(9) - 3)
}

// small are all plans of one package with two variables and a function, each of which reads, or calls, some of them; x reads y unseen, too, or not.
func small() []start.Plan {
	var all []start.Plan
	some := func(bits int) start.Expr {
		e := start.Expr{Base: 1}
		for i, name := range []string{"x", "y"} {
			if bits>>i&1 > 0 {
				e.Reads = append(e.Reads, read(name, int64(i+2)))
			}
		}
		if bits>>2&1 > 0 {
			e.Calls = append(e.Calls, call("f"))
		}
		return e
	}
	for bits := range 1 << 10 {
		x := some(bits)
		if bits>>9 > 0 {
			x.Hidden = append(x.Hidden, read("y", 5))
		}
		p := alone(variable("x", 1, x), variable("y", 2, some(bits>>3)))
		all = append(all, withFuncs(p, function("f", some(bits>>6))))
	}
	return all
}

// imports are all plans of three packages, each of which imports some of the others; one has an init function.
func imports() []start.Plan {
	var all []start.Plan
	for bits := range 1 << 6 {
		p := start.Plan{{Path: "b"}, {Path: "c"}, {Path: "a"}}
		for i := range p {
			p[i].Vars = vars(1)
			for j := range 2 {
				if bits>>(2*i+j)&1 > 0 {
					p[i].Imports = append(p[i].Imports, p[(i+j+1)%3].Path)
				}
			}
		}
		p[1].Inits = [][]start.Step{{enter()}}
		all = append(all, p)
	}
	return all
}

// plans are plans of all kinds, which may be.
func plans() []start.Plan {
	all := slices.Concat(small(), imports(), []start.Plan{nil, families(), busy(), packs(32)})
	for seed := range uint64(1500) {
		all = append(all, grown(seed, seed%3 > 0))
	}
	return all
}

// asks are the calls that ask for a plan without rings, each with whether its answer beside the error is zero.
func asks() map[string]func(p start.Plan) (bool, api.Errno) {
	return map[string]func(p start.Plan) (bool, api.Errno){
		"Order": func(p start.Plan) (bool, api.Errno) { l, e := start.Order(p); return len(l) == 0, e },
		"Run": func(p start.Plan) (bool, api.Errno) {
			r, e := start.Run(p)
			return len(r.Values)+len(r.Notes) == 0, e
		},
		"Early": func(p start.Plan) (bool, api.Errno) { l, e := start.Early(p); return len(l) == 0, e },
		"Lazy":  func(p start.Plan) (bool, api.Errno) { l, e := start.Lazy(p); return len(l) == 0, e },
		"Deps":  func(p start.Plan) (bool, api.Errno) { l, e := start.Deps(p, "nobody", ""); return len(l) == 0, e },
	}
}
