package start_test

import (
	"fmt"
	"math"
	"slices"
	"strings"
	"testing"

	"reveille/api"
	"reveille/start"
)

// refused asks that each call answers an error, and nothing beside it.
func refused(t *testing.T, what string, p start.Plan, want api.Errno) {
	t.Helper()
	for name, ask := range asks() {
		if none, e := ask(p); e != want || !none {
			t.Errorf("%s, %s: %d, want %d; nothing beside it: %v", what, name, e, want, none)
		}
	}
}

// isNoPlan asks that a plan is refused as one that may not be.
func isNoPlan(t *testing.T, what string, p start.Plan) {
	t.Helper()
	if (model{p}).mayBe() {
		t.Errorf("%s: the chapter's words do not refuse it", what)
	}
	if at, e := start.Check(p); at != "" || e != api.ErrPlan {
		t.Errorf("%s, Check: %q, %d", what, at, e)
	}
	if l, e := start.Rings(p); len(l) > 0 || e != api.ErrPlan {
		t.Errorf("%s, Rings: %v, %d", what, l, e)
	}
	refused(t, what, p, api.ErrPlan)
}

// isPlan asks that a plan may be, and has no ring.
func isPlan(t *testing.T, what string, p start.Plan) {
	t.Helper()
	if !(model{p}).mayBe() {
		t.Errorf("%s: the chapter's words refuse it", what)
	}
	if at, e := start.Check(p); at != "" || e != api.OK {
		t.Errorf("%s, Check: %q, %d", what, at, e)
	}
	if l, e := start.Rings(p); len(l) > 0 || e != api.OK {
		t.Errorf("%s, Rings: %v, %d", what, l, e)
	}
	if _, e := start.Run(p); e != api.OK {
		t.Errorf("%s, Run: %d", what, e)
	}
}

// two is a package a with the variables x and y, which imports b; each has a function f; c stands beside them.
func two() start.Plan {
	return start.Plan{
		{Path: "a", Imports: []string{"b"}, Vars: []start.Var{variable("x", 3, start.Expr{}), variable("y", 1, start.Expr{})}, Funcs: funcs(1)},
		{Path: "b", Vars: []start.Var{variable("v", 2, start.Expr{})}, Funcs: []start.Func{function("f", start.Expr{})}},
		{Path: "c", Vars: []start.Var{variable("v", 2, start.Expr{})}, Funcs: []start.Func{function("f", start.Expr{})}},
	}
}

// of is two with another expression of a's x.
func of(e start.Expr) start.Plan {
	return changed(two(), func(p start.Plan) { p[0].Vars[0].Expr = e })
}

// stepping is two with these steps in a's init function.
func stepping(l ...start.Step) start.Plan { return withInits(two(), l) }

// P6.1: plans that may be, at the limits too.
func TestCheck(t *testing.T) {
	long := strings.Repeat("a", 31)
	for what, p := range map[string]start.Plan{
		"nil":                      nil,
		"no packages":              {},
		"an empty package":         {{Path: "a"}},
		"all kinds of things":      busy(),
		"the families":             families(),
		"32 packages":              packs(32),
		"a long path":              {{Path: long}, {Path: "b", Imports: []string{long}}},
		"all bytes of names":       {{Path: "az09,._+-@#?", Vars: []start.Var{variable("az09,._+-@#?", 1, start.Expr{})}, Funcs: []start.Func{function(long, start.Expr{})}}},
		"32 variables":             alone(vars(32)...),
		"32 functions, 32 of both": withFuncs(alone(vars(32)...), funcs(32)...),
		"a Len of 48":              alone(variable("x", 48, start.Expr{})),
		"8 init functions":         withInits(alone(), repeated([]start.Step{}, 8)...),
		"32 steps":                 withInits(alone(), repeated(enter(), 32)),
		"16 Reads":                 of(start.Expr{Reads: repeated(read("y", 1), 16)}),
		"16 Calls":                 of(start.Expr{Calls: repeated(call("f0"), 16)}),
		"16 Hidden":                of(start.Expr{Hidden: repeated(read("y", 1), 16)}),
		"16 of each of a function": withFuncs(two(), function("f", start.Expr{Reads: repeated(read("y", 1), 16), Calls: repeated(call("b.f"), 16), Hidden: repeated(read("c.v", 1), 16)})),
		"Reads of an imported one": of(reads("y", "b.v", "b.v")),
		"Calls of an imported one": of(calls("f0", "b.f", "b.f")),
		"Hidden of any":            of(hides("x", "a.x", "y", "a.y", "b.v", "c.v")),
		"one name in two packages": {{Path: "a", Vars: vars(2)}, {Path: "b", Vars: vars(2), Funcs: funcs(1)}, {Path: "v0", Funcs: funcs(1)}},
		"Add at its ends":          stepping(add("x", 0, 1), add("x", 2, math.MinInt64), add("y", 0, 1)),
		"Gain at its ends":         stepping(gain("x", 0, "x", 1), gain("x", 2, "y", 1), gain("x", 2, "b.v", 1)),
		"Add with a wrong Read":    stepping(start.Step{Do: start.Add, Name: "x", Read: read("nobody.q", 1)}),
		"Enter with wrong fields":  stepping(start.Step{Do: start.Enter, Name: "\x00", At: -1, Read: read("a.x", 1)}),
	} {
		isPlan(t, what, p)
	}
}

// P6.1: plans that may not be are refused by every call.
func TestCheckRefused(t *testing.T) {
	change := func(do func(k *start.Pack)) start.Plan {
		return changed(two(), func(p start.Plan) { do(&p[0]) })
	}
	for what, p := range map[string]start.Plan{
		"33 packages":                   append(packs(32), start.Pack{Path: "q"}),
		"a path twice":                  {{Path: "a"}, {Path: "b"}, {Path: "a"}},
		"an import that is not there":   change(func(k *start.Pack) { k.Imports = []string{"b", "d"} }),
		"an import of itself":           change(func(k *start.Pack) { k.Imports = []string{"b", "a"} }),
		"an import twice":               change(func(k *start.Pack) { k.Imports = []string{"b", "c", "b"} }),
		"an import of nothing":          change(func(k *start.Pack) { k.Imports = []string{""} }),
		"33 imports":                    change(func(k *start.Pack) { k.Imports = repeated("b", 33) }),
		"33 variables":                  alone(vars(33)...),
		"33 functions":                  withFuncs(alone(), funcs(33)...),
		"9 init functions":              withInits(alone(), repeated([]start.Step{}, 9)...),
		"33 steps":                      withInits(alone(), []start.Step{}, repeated(enter(), 33)),
		"a Len of 49":                   alone(variable("x", 49, start.Expr{})),
		"a great Len":                   alone(variable("x", math.MaxInt, start.Expr{})),
		"a Len of 0":                    alone(variable("y", 1, start.Expr{}), variable("x", 0, start.Expr{})),
		"a Len below 0":                 alone(variable("x", math.MinInt, start.Expr{})),
		"a variable's name twice":       alone(variable("x", 1, start.Expr{}), variable("y", 1, start.Expr{}), variable("x", 1, start.Expr{})),
		"a function's name twice":       withFuncs(alone(), append(funcs(2), funcs(1)...)...),
		"a variable called as a func":   withFuncs(alone(vars(2)...), function("v1", start.Expr{})),
		"17 Reads":                      of(start.Expr{Reads: repeated(read("y", 1), 17)}),
		"17 Calls":                      of(start.Expr{Calls: repeated(call("f0"), 17)}),
		"17 Hidden":                     of(start.Expr{Hidden: repeated(read("y", 1), 17)}),
		"17 Reads of a function":        withFuncs(two(), function("f", start.Expr{Reads: repeated(read("y", 1), 17)})),
		"17 Calls of a function":        withFuncs(two(), function("f", start.Expr{Calls: repeated(call("b.f"), 17)})),
		"17 Hidden of a function":       withFuncs(two(), function("f", start.Expr{Hidden: repeated(read("y", 1), 17)})),
		"Reads of nobody":               of(reads("y", "z")),
		"Reads of a function":           of(reads("f0")),
		"Reads by the own path":         of(reads("a.y")),
		"Reads of one not imported":     of(reads("c.v")),
		"Reads of no package":           of(reads("d.v")),
		"Reads of no variable of b":     of(reads("b.x")),
		"Reads of a function of b":      of(reads("b.f")),
		"Calls of nobody":               of(calls("g")),
		"Calls of a variable":           of(calls("y")),
		"Calls by the own path":         of(calls("a.f0")),
		"Calls of one not imported":     of(calls("c.f")),
		"Calls of no function of b":     of(calls("b.f0")),
		"Calls of a variable of b":      of(calls("b.v")),
		"Hidden of nobody":              of(hides("z")),
		"Hidden of nobody by its path":  of(hides("a.z")),
		"Hidden of no package":          of(hides("d.v")),
		"Hidden of a function":          of(hides("c.f")),
		"a function reads nobody":       withFuncs(two(), function("f", reads("z"))),
		"a function calls nobody":       withFuncs(two(), function("f", calls("c.f"))),
		"a function hides nobody":       withFuncs(two(), function("f", hides("c.x"))),
		"a step does 0":                 stepping(enter(), start.Step{Name: "x"}),
		"a step does 4":                 stepping(start.Step{Do: 4, Name: "x", Read: read("y", 1)}),
		"a step does 255":               stepping(start.Step{Do: 255, Name: "x", Read: read("y", 1)}),
		"Add to nobody":                 stepping(add("z", 0, 1)),
		"Add to a function":             stepping(add("f0", 0, 1)),
		"Add to another package's":      stepping(add("v", 0, 1)),
		"Add past the end":              stepping(add("x", 3, 1)),
		"Add past the end of y":         stepping(add("x", 1, 1), add("y", 1, 1)),
		"Add below 0":                   stepping(add("x", -1, 1)),
		"Add far away":                  stepping(add("x", math.MaxInt, 1)),
		"Gain to nobody":                stepping(gain("z", 0, "x", 1)),
		"Gain past the end":             stepping(gain("x", 3, "x", 1)),
		"Gain below 0":                  stepping(gain("x", -1, "x", 1)),
		"Gain of nobody":                stepping(gain("x", 0, "z", 1)),
		"Gain by the own path":          stepping(gain("x", 0, "a.x", 1)),
		"Gain of one not imported":      stepping(gain("x", 0, "c.v", 1)),
		"Gain of a function":            stepping(gain("x", 0, "b.f", 1)),
		"Gain of an empty Read":         stepping(start.Step{Do: start.Gain, Name: "x"}),
		"the last package is at fault":  append(two(), start.Pack{Path: "d", Inits: [][]start.Step{{{}}}}),
		"no name, ahead of all that is": append(start.Plan{{Path: "A"}}, two()...),
	} {
		isNoPlan(t, what, p)
	}
	for _, name := range []string{"", "A", "a b", "a/b", "a\x00", "é", "\xff", strings.Repeat("a", 32)} {
		isNoPlan(t, fmt.Sprintf("the path %q", name), start.Plan{{Path: name}})
		isNoPlan(t, fmt.Sprintf("the variable %q", name), alone(variable(name, 1, start.Expr{})))
		isNoPlan(t, fmt.Sprintf("the function %q", name), withFuncs(alone(), function(name, start.Expr{})))
	}
}

// P6.1: where a plan may not be, that is told ahead of its rings; and its rings ahead of what Deps is asked for.
func TestErrorsInOrder(t *testing.T) {
	ring := alone(variable("x", 1, reads("x")))
	isNoPlan(t, "a ring and a fault", append(ring, start.Pack{Path: "b", Imports: []string{"b"}}))
	isNoPlan(t, "a ring of packages and a fault", start.Plan{{Path: "a", Imports: []string{"b"}}, {Path: "b", Imports: []string{"a"}, Vars: vars(33)}})
	for _, ask := range [][2]string{{"a", "x"}, {"a", "nobody"}, {"nobody", "x"}} {
		if l, e := start.Deps(ring, ask[0], ask[1]); len(l) > 0 || e != api.ErrRing {
			t.Errorf("Deps of %v: %v, %d", ask, l, e)
		}
		if l, e := start.Deps(alone(vars(33)...), ask[0], ask[1]); len(l) > 0 || e != api.ErrPlan {
			t.Errorf("Deps of %v: %v, %d", ask, l, e)
		}
	}
}

// P6.1: of any plan Check says what the chapter's words say.
func TestCheckHeld(t *testing.T) {
	ringed := 0
	for _, p := range plans() {
		want := api.OK
		rings, at := model{p}.rings()
		if !(model{p}).mayBe() {
			t.Fatalf("no plan: %+v", p)
		}
		if len(rings) > 0 {
			want = api.ErrRing
			ringed++
			refused(t, "a ring", p, want)
		}
		if got, e := start.Check(p); got != at || e != want {
			t.Fatalf("Check(%+v): %q, %d, want %q, %d", p, got, e, at, want)
		}
	}
	if ringed < 500 {
		t.Errorf("%d rings alone", ringed)
	}
}

// P6.1: a plan in which one thing was changed is refused just if the chapter's words refuse it.
func TestCheckChanged(t *testing.T) {
	bad := 0
	for seed := range uint64(300) {
		for _, p := range broken(grown(seed, true)) {
			m := model{p}
			at, e := start.Check(p)
			if !m.mayBe() {
				bad++
				if at != "" || e != api.ErrPlan {
					t.Fatalf("Check(%+v): %q, %d", p, at, e)
				}
			} else if rings, want := m.rings(); at != want || (e == api.ErrRing) != (len(rings) > 0) || e == api.ErrPlan {
				t.Fatalf("Check(%+v): %q, %d, want %q", p, at, e, want)
			}
		}
	}
	if bad < 2000 {
		t.Errorf("%d faults alone", bad)
	}
}

// broken are plans in each of which one thing was changed: a path, an import, a name, or a package left out.
func broken(p start.Plan) []start.Plan {
	var all []start.Plan
	for i, k := range p {
		all = append(all, slices.Delete(copied(p), i, i+1))
		put := func(do func(k *start.Pack)) { all = append(all, changed(p, func(p start.Plan) { do(&p[i]) })) }
		put(func(k *start.Pack) { k.Path = "x" })
		put(func(k *start.Pack) { k.Path = p[0].Path })
		put(func(k *start.Pack) { k.Imports = nil })
		put(func(k *start.Pack) { k.Imports = append(k.Imports, p[len(p)-1].Path) })
		for j := range k.Vars {
			put(func(k *start.Pack) { k.Vars = slices.Delete(k.Vars, j, j+1) })
			put(func(k *start.Pack) { k.Vars[j].Len-- })
			put(func(k *start.Pack) { k.Vars[j].Name = "f" })
			for n := range k.Vars[j].Expr.Reads {
				put(func(k *start.Pack) { k.Vars[j].Expr.Reads[n].Pack = k.Path })
				put(func(k *start.Pack) { k.Vars[j].Expr.Reads[n].Pack = p[0].Path })
			}
		}
		for j := range k.Funcs {
			put(func(k *start.Pack) { k.Funcs = slices.Delete(k.Funcs, j, j+1) })
			put(func(k *start.Pack) { k.Funcs[j].Name = "x" })
			for n := range k.Funcs[j].Expr.Calls {
				put(func(k *start.Pack) { k.Funcs[j].Expr.Calls[n].Name = "x" })
				put(func(k *start.Pack) { k.Funcs[j].Expr.Calls[n].Pack = "" })
			}
		}
	}
	return all
}
