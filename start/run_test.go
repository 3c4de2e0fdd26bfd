package start_test

import (
	"math"
	"testing"

	"reveille/api"
	"reveille/start"
)

// ringless are the plans that have no ring.
func ringless() []start.Plan {
	var all []start.Plan
	for _, p := range plans() {
		if rings, _ := (model{p}).rings(); len(rings) == 0 {
			all = append(all, p)
		}
	}
	return all
}

// isOrder asks that Order tells these, each a package's path and a variable's name.
func isOrder(t *testing.T, what string, p start.Plan, want ...string) {
	t.Helper()
	var stages []start.Stage
	for _, s := range want {
		path, name := apart(s)
		stages = append(stages, start.Stage{Pack: path, Name: name})
	}
	if l, e := start.Order(p); !same(l, stages) || e != api.OK {
		t.Errorf("%s, Order: %v, %d, want %v", what, l, e, stages)
	}
}

// has asks that a variable has these numbers in the end, by Run or by Lazy.
func has(t *testing.T, what string, l []start.Value, e api.Errno, of string, want ...int64) {
	t.Helper()
	path, name := apart(of)
	for _, v := range l {
		if v.Pack == path && v.Name == name {
			if !same(v.Nums, want) {
				t.Errorf("%s: %s has %v, want %v", what, of, v.Nums, want)
			}
			return
		}
	}
	t.Errorf("%s: no %s in %v, %d", what, of, l, e)
}

// comes asks that a variable has these numbers, by Run and by Lazy.
func comes(t *testing.T, what string, p start.Plan, of string, want ...int64) {
	t.Helper()
	r, e := start.Run(p)
	has(t, what+", Run", r.Values, e, of, want...)
	l, e := start.Lazy(p)
	has(t, what+", Lazy", l, e, of, want...)
}

// P6.2: the chapter's examples, and what stands beside them.
func TestOrder(t *testing.T) {
	x, y := variable("x", 1, start.Expr{}), variable("y", 1, start.Expr{})
	isOrder(t, "declared behind", alone(variable("x", 2, reads("y")), y), "a.y", "a.x")
	isOrder(t, "declared ahead", alone(x, y), "a.x", "a.y")
	isOrder(t, "imported", start.Plan{{Path: "b", Imports: []string{"a"}, Vars: []start.Var{x}}, {Path: "a", Vars: []start.Var{y}}}, "a.y", "b.x")
	isOrder(t, "by paths", start.Plan{{Path: "c", Vars: []start.Var{x}}, {Path: "a", Imports: []string{"c"}, Vars: []start.Var{x}}, {Path: "b", Vars: []start.Var{x}}}, "b.x", "c.x", "a.x")
	isOrder(t, "the least path again", start.Plan{{Path: "a", Imports: []string{"b"}, Vars: []start.Var{x}}, {Path: "b", Vars: []start.Var{x}}, {Path: "c", Vars: []start.Var{x}}}, "b.x", "a.x", "c.x")
	isOrder(t, "paths are told apart byte by byte", start.Plan{{Path: "a1", Vars: []start.Var{x}}, {Path: "a", Vars: []start.Var{x}}, {Path: "a-", Vars: []start.Var{x}}, {Path: "a09", Vars: []start.Var{x}}}, "a.x", "a-.x", "a09.x", "a1.x")
	isOrder(t, "the first one declared again", alone(variable("x", 1, reads("z")), variable("z", 1, start.Expr{}), y), "a.z", "a.x", "a.y")
	isOrder(t, "through a function", withFuncs(alone(variable("x", 1, calls("f")), y), function("f", reads("y"))), "a.y", "a.x")
	isOrder(t, "a function that nobody calls", withFuncs(alone(x, y), function("f", reads("y"))), "a.x", "a.y")
	isOrder(t, "Hidden is not seen", alone(variable("x", 1, hides("y")), y), "a.x", "a.y")
	isOrder(t, "nothing", nil)
	want := []start.Stage{{Pack: "c", Name: "v"}, {Pack: "c", Init: 1}, {Pack: "c", Init: 2}, {Pack: "b", Name: "v"}, {Pack: "b", Init: 1}, {Pack: "a", Name: "y"}, {Pack: "a", Name: "x"}, {Pack: "a", Name: "z"}, {Pack: "a", Init: 1}, {Pack: "a", Init: 2}, {Pack: "d", Name: "v"}}
	if l, e := start.Order(busy()); !same(l, want) || e != api.OK {
		t.Errorf("Order: %v, %d", l, e)
	}
}

// P6.3: what variables come to.
func TestRunValues(t *testing.T) {
	y := variable("y", 1, start.Expr{Base: 3})
	long := variable("y", 3, start.Expr{Base: 10, Step: -4})
	comes(t, "the first example", alone(variable("x", 2, start.Expr{Base: 5, Step: 1, Reads: []start.Read{read("y", 2)}}), y), "a.x", 11, 12)
	comes(t, "through a function", withFuncs(alone(variable("x", 1, calls("f")), variable("y", 1, start.Expr{Base: 7})), function("f", reads("y"))), "a.x", 7)
	comes(t, "past the end of what is read", alone(variable("x", 7, reads("y")), long), "a.x", 10, 6, 2, 10, 6, 2, 10)
	comes(t, "more than is needed", alone(variable("x", 2, reads("y")), long), "a.x", 10, 6)
	comes(t, "twice", alone(variable("x", 1, reads("y", "y", "y")), y), "a.x", 9)
	comes(t, "times 0", alone(variable("x", 1, start.Expr{Base: 1, Reads: []start.Read{read("y", 0)}}), y), "a.x", 1)
	comes(t, "called twice", withFuncs(alone(variable("x", 3, calls("f", "f"))), function("f", start.Expr{Base: 1, Step: 2, Calls: calls("g", "g").Calls}), function("g", start.Expr{Step: 5})), "a.x", 2, 26, 50)
	comes(t, "it wraps", alone(variable("x", 3, start.Expr{Base: math.MaxInt64, Step: math.MinInt64 + 1})), "a.x", math.MaxInt64, 0, math.MinInt64+1)
	comes(t, "a product wraps", alone(variable("x", 1, start.Expr{Reads: []start.Read{read("y", 1<<62)}}), y), "a.x", -1<<62)
	two := start.Plan{
		{Path: "b", Imports: []string{"a"}, Vars: []start.Var{variable("y", 2, start.Expr{Base: 1, Reads: []start.Read{read("a.y", 10)}, Calls: []start.Call{call("a.f"), call("f")}})}, Funcs: []start.Func{function("f", start.Expr{Base: 1000})}},
		{Path: "a", Vars: []start.Var{variable("y", 1, start.Expr{Base: 3})}, Funcs: []start.Func{function("f", start.Expr{Base: 100, Reads: []start.Read{read("y", 5)}})}, Inits: [][]start.Step{{add("y", 0, 4)}}},
	}
	comes(t, "another package, as it ended", two, "b.y", 1206, 1206)
	comes(t, "init functions", busyInits(), "a.x", 0, 88, 7)
	comes(t, "init functions", busyInits(), "a.y", 9, -5)
}

// busyInits is a plan whose steps go by what the ones ahead of them left.
func busyInits() start.Plan {
	p := alone(variable("x", 3, start.Expr{}), variable("y", 2, start.Expr{Base: 4}))
	return withInits(p, []start.Step{add("x", 2, 7), add("y", 0, 5)}, []start.Step{gain("x", 1, "y", 10), enter(), gain("x", 1, "x", 1), gain("y", 1, "y", -2), gain("x", 1, "y", -2)}, []start.Step{gain("y", 1, "x", 0), add("y", 1, -1), gain("x", 0, "x", 9), gain("x", 1, "y", 0)})
}

// P6.3: notes, and how many cards stand.
func TestRunNotes(t *testing.T) {
	p := withInits(alone(variable("y", 2, start.Expr{Base: 1})), []start.Step{add("y", 1, 5), enter()}, []start.Step{gain("y", 0, "y", 3)})
	want := start.Report{
		Values: []start.Value{{Pack: "a", Name: "y", Nums: []int64{4, 6}}},
		Notes:  []start.Note{{Pack: "a", Name: "y", Sum: 2}, {Pack: "a", Init: 1, Sum: 7, Stood: 1}, {Pack: "a", Init: 2, Sum: 10, Stood: 1}},
	}
	if r, e := start.Run(p); !same(r.Values, want.Values) || !same(r.Notes, want.Notes) || e != api.OK {
		t.Errorf("the last example: %+v, %d", r, e)
	}
	notes := []start.Note{
		{Pack: "c", Name: "v", Sum: 14}, {Pack: "c", Init: 1, Sum: 14}, {Pack: "c", Init: 2, Sum: 22},
		{Pack: "b", Name: "v", Sum: 2}, {Pack: "b", Init: 1, Sum: 2, Stood: 2},
		{Pack: "a", Name: "y", Sum: 3, Stood: 2}, {Pack: "a", Name: "x", Sum: 140, Stood: 2}, {Pack: "a", Name: "z", Sum: 6, Stood: 2},
		{Pack: "a", Init: 1, Sum: 159, Stood: 3}, {Pack: "a", Init: 2, Sum: 97, Stood: 3},
		{Pack: "d", Name: "v", Sum: 37, Stood: 3},
	}
	if r, e := start.Run(busy()); !same(r.Notes, notes) || e != api.OK {
		t.Errorf("the busy plan: %+v, %d", r.Notes, e)
	}
	if r, e := start.Run(nil); len(r.Values)+len(r.Notes) > 0 || e != api.OK {
		t.Errorf("nothing: %+v, %d", r, e)
	}
}

// P6.3: what the families' plan comes to, as their chapters tell it.
func TestFamilies(t *testing.T) {
	r, e := start.Run(families())
	if len(r.Values) != 5 || len(r.Notes) != 15 || e != api.OK {
		t.Fatalf("Run: %+v, %d", r, e)
	}
	some := map[string]map[int]int64{
		"crystal": {0: 32768, 1: 2000000, 2: 3000000, 30: 31000000, 31: 100000000},
		"supply":  {0: 800000, 1: 2312500, 2: 3325000, 3: 4337500, 22: 23575000, 23: 25000000},
		"bus":     {0: 268435456 + 32768 + 4*800000 + 4096, 19: 2 * 205915320},
		"sensor":  {0: 625000, 1: 2122500, 2: 3145000, 3: 4167500, 14: 15415000, 15: 16937500},
		"radio":   {0: 432920000},
	}
	for _, v := range r.Values {
		for i, n := range some[v.Pack] {
			if v.Nums[i] != n {
				t.Errorf("%s %d: %d, want %d", v.Pack, i, v.Nums[i], n)
			}
		}
	}
}

// P6.5: what is read before it is made.
func TestEarly(t *testing.T) {
	x, y := variable("x", 1, hides("y")), variable("y", 1, start.Expr{Base: 7})
	late := start.Plan{{Path: "b", Vars: []start.Var{y}}, {Path: "a", Vars: []start.Var{variable("x", 1, hides("b.y"))}}}
	through := start.Plan{
		{Path: "b", Imports: []string{"a"}, Vars: []start.Var{variable("x", 1, calls("a.f")), variable("y", 1, calls("a.f"))}},
		{Path: "a", Funcs: []start.Func{function("f", calls("g")), function("g", hides("b.x"))}},
	}
	for what, c := range map[string]struct {
		p    start.Plan
		want []start.Stage
	}{
		"declared ahead":               {alone(x, y), []start.Stage{{Pack: "a", Name: "x"}}},
		"declared behind":              {alone(y, x), nil},
		"itself":                       {alone(variable("x", 1, hides("x"))), []start.Stage{{Pack: "a", Name: "x"}}},
		"itself by its path":           {alone(variable("x", 1, hides("a.x"))), []start.Stage{{Pack: "a", Name: "x"}}},
		"times 0":                      {alone(variable("x", 1, start.Expr{Hidden: []start.Read{read("y", 0)}}), y), []start.Stage{{Pack: "a", Name: "x"}}},
		"one of two":                   {alone(y, variable("x", 1, hides("y", "z")), variable("z", 1, start.Expr{})), []start.Stage{{Pack: "a", Name: "x"}}},
		"a package behind":             {late, []start.Stage{{Pack: "a", Name: "x"}}},
		"a package ahead":              {start.Plan{{Path: "b", Vars: []start.Var{variable("x", 1, hides("a.y"))}}, {Path: "a", Vars: []start.Var{y}}}, nil},
		"functions of other packages":  {through, []start.Stage{{Pack: "b", Name: "x"}}},
		"a function that none calls":   {withFuncs(alone(variable("x", 1, start.Expr{}), y), function("f", hides("y"))), nil},
		"no sooner for another's sake": {alone(variable("w", 1, reads("y")), x, y), []start.Stage{{Pack: "a", Name: "x"}}},
		"in the order":                 {alone(variable("v", 1, start.Expr{Reads: reads("x").Reads, Hidden: reads("z").Reads}), variable("x", 1, hides("v")), variable("z", 1, start.Expr{})), []start.Stage{{Pack: "a", Name: "x"}, {Pack: "a", Name: "v"}}},
		"an init function's step":      {withInits(alone(y), []start.Step{gain("y", 0, "y", 1)}), nil},
	} {
		if l, e := start.Early(c.p); !same(l, c.want) || e != api.OK {
			t.Errorf("%s: %v, %d", what, l, e)
		}
	}
}

// P6.3, P6.5, P6.6: hidden reads see what stands, and Lazy doesn't look.
func TestHidden(t *testing.T) {
	for _, c := range []struct {
		what      string
		p         start.Plan
		run, lazy []int64
	}{
		{"declared ahead", alone(variable("x", 1, hides("y")), variable("y", 1, start.Expr{Base: 7})), []int64{0}, []int64{0}},
		{"declared behind", alone(variable("y", 1, start.Expr{Base: 7}), variable("x", 2, start.Expr{Base: 1, Hidden: []start.Read{read("y", 2)}})), []int64{15, 15}, []int64{1, 1}},
		{"itself", alone(variable("x", 2, start.Expr{Base: 1, Step: 1, Hidden: []start.Read{read("x", 5)}})), []int64{1, 2}, []int64{1, 2}},
		{"of a function", withFuncs(alone(variable("y", 2, start.Expr{Step: 3}), variable("x", 3, calls("f"))), function("f", start.Expr{Base: 1, Hidden: []start.Read{read("a.y", 2)}})), []int64{1, 7, 1}, []int64{1, 1, 1}},
	} {
		r, e := start.Run(c.p)
		has(t, c.what, r.Values, e, "a.x", c.run...)
		l, e := start.Lazy(c.p)
		has(t, c.what+", Lazy", l, e, "a.x", c.lazy...)
	}
	behind := start.Plan{{Path: "a", Vars: []start.Var{variable("y", 1, start.Expr{Base: 7})}, Inits: [][]start.Step{{add("y", 0, 4)}}}, {Path: "b", Vars: []start.Var{variable("x", 1, hides("a.y"))}}}
	r, e := start.Run(behind)
	has(t, "as the package left it", r.Values, e, "b.x", 11)
	behind[0].Path, behind[1].Vars[0].Expr = "c", hides("c.y")
	r, e = start.Run(behind)
	has(t, "not begun", r.Values, e, "b.x", 0)
}

// P6.2, P6.3, P6.5, P6.6: of any plan the calls tell what the chapter's words say.
func TestRunHeld(t *testing.T) {
	some := 0
	for _, p := range ringless() {
		m := model{p}
		if l, e := start.Order(p); !same(l, m.order()) || e != api.OK {
			t.Fatalf("Order(%+v): %v, %d, want %v", p, l, e, m.order())
		}
		want, early := m.run()
		if r, e := start.Run(p); !same(r.Values, want.Values) || !same(r.Notes, want.Notes) || e != api.OK {
			t.Fatalf("Run(%+v): %+v, %d, want %+v", p, r, e, want)
		}
		if l, e := start.Early(p); !same(l, early) || e != api.OK {
			t.Fatalf("Early(%+v): %v, %d, want %v", p, l, e, early)
		}
		if l, e := start.Lazy(p); !same(l, m.lazy()) || e != api.OK {
			t.Fatalf("Lazy(%+v): %v, %d, want %v", p, l, e, m.lazy())
		}
		if len(early) > 0 {
			some++
		}
	}
	if some < 200 {
		t.Errorf("%d plans with early ones alone", some)
	}
}

// P6.3: functions that are called on very many ways are reckoned all the same.
func TestManyWays(t *testing.T) {
	p := packs(32)
	for i := range p {
		p[i].Funcs = funcs(32)
		for j := range p[i].Funcs {
			what := names("f", 32)[max(j-1, 0)]
			if j == 0 && i > 0 {
				what = p[i-1].Path + ".f31"
			}
			e := start.Expr{Base: 1, Calls: repeated(call(what), 16)}
			if i == 0 && j == 0 {
				e.Calls = nil
			}
			p[i].Funcs[j].Expr = e
		}
		p[i].Vars[0].Expr = calls("f31")
	}
	comes(t, "16 ways at each", p, "p0.v0", 0x1111111111111111)
	comes(t, "16 ways at each", p, "p31.v0", 0x1111111111111111)
	if l, e := start.Early(p); len(l) > 0 || e != api.OK {
		t.Errorf("Early: %v, %d", l, e)
	}
}

// P6.6: each variable is reckoned once, though it be asked for on very many ways.
func TestAskedOnce(t *testing.T) {
	l := vars(32)
	for i := range l {
		l[i].Expr = start.Expr{Base: 1, Reads: reads(names("v", 32)[i+1 : min(i+17, 32)]...).Reads}
	}
	comes(t, "the last one", alone(l...), "a.v31", 1)
	comes(t, "the one ahead of 15", alone(l...), "a.v16", 1<<15)
	comes(t, "the one ahead of 17", alone(l...), "a.v14", 1<<17-2+1)
}
