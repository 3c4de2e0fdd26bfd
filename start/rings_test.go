package start_test

import (
	"math/rand/v2"
	"slices"
	"testing"

	"reveille/api"
	"reveille/start"
)

// P6.1, P6.4: rings, where they are told, and in what order.
func TestRings(t *testing.T) {
	b := start.Pack{Path: "b", Vars: []start.Var{variable("y", 1, reads("x")), variable("x", 1, reads("y"))}, Funcs: []start.Func{function("g", calls("g"))}}
	chain := alone(variable("x", 1, calls("f")), variable("y", 1, start.Expr{}), variable("z", 1, reads("x")))
	for what, c := range map[string]struct {
		p    start.Plan
		at   string
		want [][]string
	}{
		"a variable reads itself":    {alone(variable("x", 1, reads("x"))), "a", [][]string{{"a", "x"}}},
		"a function calls itself":    {withFuncs(alone(), function("f", calls("f"))), "a", [][]string{{"a", "f"}}},
		"packages":                   {start.Plan{{Path: "b", Imports: []string{"a"}}, {Path: "a", Imports: []string{"b"}}}, "", [][]string{{"a", "b"}}},
		"packages through others":    {start.Plan{{Path: "d", Imports: []string{"c"}}, {Path: "c", Imports: []string{"b"}}, {Path: "b", Imports: []string{"d"}}, {Path: "a", Imports: []string{"d"}}, {Path: "e"}}, "", [][]string{{"b", "c", "d"}}},
		"two classes of packages":    {start.Plan{{Path: "d", Imports: []string{"b"}}, {Path: "c", Imports: []string{"a"}}, {Path: "b", Imports: []string{"d", "a"}}, {Path: "a", Imports: []string{"c"}}}, "", [][]string{{"a", "c"}, {"b", "d"}}},
		"packages ahead of others":   {append(start.Plan{{Path: "d", Imports: []string{"c"}}, {Path: "c", Imports: []string{"d"}}}, b), "", [][]string{{"c", "d"}}},
		"functions, then variables":  {start.Plan{b}, "b", [][]string{{"b", "g"}, {"b", "y", "x"}}},
		"by rising paths":            {start.Plan{b, {Path: "c", Vars: b.Vars}, {Path: "a", Funcs: b.Funcs}, {Path: "0"}}, "a", [][]string{{"a", "g"}, {"b", "g"}, {"b", "y", "x"}, {"c", "y", "x"}}},
		"classes by their first":     {alone(variable("d", 1, reads("b")), variable("c", 1, reads("a")), variable("b", 1, reads("d", "a")), variable("a", 1, reads("c"))), "a", [][]string{{"a", "d", "b"}, {"a", "c", "a"}}},
		"functions by declaration":   {withFuncs(alone(), function("h", calls("g")), function("f", calls("f", "h")), function("g", calls("h"))), "a", [][]string{{"a", "h", "g"}, {"a", "f"}}},
		"a variable by a function":   {withFuncs(chain, function("g", reads("z")), function("f", calls("g"))), "a", [][]string{{"a", "x", "z"}}},
		"it hangs on a ring":         {alone(variable("x", 1, reads("y")), variable("y", 1, reads("y")), variable("z", 1, reads("x"))), "a", [][]string{{"a", "y"}}},
		"a ring nobody asks for":     {withFuncs(alone(variable("x", 1, start.Expr{})), function("f", calls("g")), function("g", calls("f"))), "a", [][]string{{"a", "f", "g"}}},
		"a ring and who reads it":    {withFuncs(alone(variable("x", 1, calls("f"))), function("f", start.Expr{Reads: reads("x").Reads, Calls: calls("f").Calls})), "a", [][]string{{"a", "f"}, {"a", "x"}}},
		"Hidden is no ring":          {alone(variable("x", 1, hides("x", "y", "a.y")), variable("y", 1, hides("x"))), "", nil},
		"no ring through a function": {withFuncs(chain, function("f", reads("y"))), "", nil},
		"one name elsewhere":         {start.Plan{{Path: "a", Imports: []string{"b"}, Vars: []start.Var{variable("x", 1, reads("b.x"))}, Funcs: []start.Func{function("f", calls("b.f"))}}, {Path: "b", Vars: []start.Var{variable("x", 1, calls("f"))}, Funcs: []start.Func{function("f", start.Expr{})}}}, "", nil},
	} {
		want := api.OK
		if c.want != nil {
			want = api.ErrRing
		}
		if at, e := start.Check(c.p); at != c.at || e != want {
			t.Errorf("%s, Check: %q, %d", what, at, e)
		}
		if l, e := start.Rings(c.p); !same(l, c.want) || e != api.OK {
			t.Errorf("%s, Rings: %v, %d", what, l, e)
		}
		if c.want != nil {
			refused(t, what, c.p, api.ErrRing)
		}
	}
}

// P6.4: of any plan Rings tells what the chapter's words say.
func TestRingsHeld(t *testing.T) {
	for _, p := range plans() {
		want, _ := model{p}.rings()
		if l, e := start.Rings(p); !same(l, want) || e != api.OK {
			t.Fatalf("Rings(%+v): %v, %d, want %v", p, l, e, want)
		}
	}
}

// P6.4: rings of as many things as a plan may have.
func TestGreatRings(t *testing.T) {
	p, in := packs(32), names("p", 32)
	p[0].Imports = []string{"p31"}
	slices.Sort(in)
	if l, e := start.Rings(p); !same(l, [][]string{in}) || e != api.OK {
		t.Errorf("packages: %v, %d", l, e)
	}
	all := vars(32)
	fs := funcs(32)
	for i := range all {
		all[i].Expr = reads(all[(i+1)%32].Name)
		fs[i].Expr = calls(fs[(i+31)%32].Name)
	}
	want := [][]string{append([]string{"a"}, names("f", 32)...), append([]string{"a"}, names("v", 32)...)}
	if l, e := start.Rings(withFuncs(alone(all...), fs...)); !same(l, want) || e != api.OK {
		t.Errorf("functions and variables: %v, %d", l, e)
	}
}

// P6.4: what a variable depends on.
func TestDeps(t *testing.T) {
	p := withFuncs(
		alone(variable("x", 1, calls("f")), variable("y", 1, start.Expr{}), variable("w", 1, hides("x")), variable("z", 1, start.Expr{Reads: reads("w").Reads, Hidden: reads("y").Reads}), variable("v", 1, reads("b.v"))),
		function("g", start.Expr{Reads: reads("z", "b.v").Reads, Calls: calls("b.f").Calls, Hidden: reads("y").Reads}), function("f", calls("g")), function("h", reads("y")))
	p[0].Imports = []string{"b"}
	p = append(p, start.Pack{Path: "b", Vars: []start.Var{variable("v", 1, start.Expr{}), variable("y", 1, reads("v"))}, Funcs: []start.Func{function("f", reads("y"))}})
	for _, c := range []struct {
		pack, name string
		want       []string
		e          api.Errno
	}{
		{"a", "x", []string{"w", "z"}, api.OK},
		{"a", "y", nil, api.OK},
		{"a", "w", nil, api.OK},
		{"a", "z", []string{"w"}, api.OK},
		{"a", "v", nil, api.OK},
		{"b", "y", []string{"v"}, api.OK},
		{"b", "x", nil, api.ErrArg},
		{"a", "f", nil, api.ErrArg},
		{"a", "", nil, api.ErrArg},
		{"", "x", nil, api.ErrArg},
		{"", "", nil, api.ErrArg},
		{"c", "x", nil, api.ErrArg},
		{"x", "a", nil, api.ErrArg},
	} {
		if l, e := start.Deps(p, c.pack, c.name); !same(l, c.want) || e != c.e {
			t.Errorf("Deps of %s %s: %v, %d", c.pack, c.name, l, e)
		}
	}
	if l, e := start.Deps(nil, "a", "x"); len(l) > 0 || e != api.ErrArg {
		t.Errorf("Deps of nothing: %v, %d", l, e)
	}
}

// P6.4: of any plan Deps tells what the chapter's words say.
func TestDepsHeld(t *testing.T) {
	r := rand.New(rand.NewPCG(4, 4))
	for _, p := range plans() {
		if rings, _ := (model{p}).rings(); len(rings) > 0 {
			continue
		}
		for _, k := range p {
			for _, v := range k.Vars {
				if r.IntN(3) > 0 {
					continue
				}
				want := model{p}.deps(k.Path, v.Name)
				if l, e := start.Deps(p, k.Path, v.Name); !same(l, want) || e != api.OK {
					t.Fatalf("Deps(%+v, %s, %s): %v, %d, want %v", p, k.Path, v.Name, l, e, want)
				}
			}
		}
	}
}
