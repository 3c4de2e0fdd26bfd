package roll_test

import (
	"math/rand/v2"
	"reflect"
	"slices"
	"testing"

	"reveille/api"
	"reveille/roll"
	"reveille/start"
)

// P13.4: the plan of the chapter's table, field by field.
func TestPlan(t *testing.T) {
	p, want := roll.Plan(), chapterPlan()
	if len(p) != len(want) {
		t.Fatalf("Plan: %d packages, want %d", len(p), len(want))
	}
	for i, pack := range p {
		isPack(t, pack, want[i])
	}
}

// isPack asks whether two packages of a plan are the same.
func isPack(t *testing.T, got, want start.Pack) {
	t.Helper()
	if got.Path != want.Path || len(got.Funcs) > 0 || len(got.Vars) != len(want.Vars) || len(got.Inits) != len(want.Inits) {
		t.Fatalf("the package %v, want %v", got, want)
	}
	isList(t, want.Path+": Imports", got.Imports, want.Imports)
	isList(t, want.Path+": Inits", got.Inits, want.Inits)
	for i, v := range got.Vars {
		w := want.Vars[i]
		isList(t, want.Path+": Reads", v.Expr.Reads, w.Expr.Reads)
		if v.Name != w.Name || v.Len != w.Len || v.Expr.Base != w.Expr.Base || v.Expr.Step != w.Expr.Step || len(v.Expr.Calls)+len(v.Expr.Hidden) > 0 {
			t.Errorf("%s: the variable %v, want %v", want.Path, v, w)
		}
	}
}

// chapterValues are the families' arrays as start tells them: by rising paths.
func chapterValues() []start.Value {
	l := familyTables()
	return []start.Value{
		{Pack: "bus", Name: "table", Nums: l[2]}, {Pack: "crystal", Name: "table", Nums: l[0]}, {Pack: "radio", Name: "table", Nums: l[4]},
		{Pack: "sensor", Name: "table", Nums: l[3]}, {Pack: "supply", Name: "table", Nums: l[1]},
	}
}

// comesTo asks whether a plan comes to the families' arrays, either way, and whether they are those that roll tells.
func comesTo(t *testing.T, p start.Plan) {
	t.Helper()
	run, e := start.Run(p)
	lazy, f := start.Lazy(p)
	want := chapterValues()
	if e != api.OK || f != api.OK || !reflect.DeepEqual(run.Values, want) || !reflect.DeepEqual(lazy, want) {
		t.Fatalf("of %v: %v %d %v %d, want %v", p, run.Values, e, lazy, f, want)
	}
	for _, v := range run.Values {
		isTable(t, v.Pack, v.Nums, api.OK)
	}
}

// P13.5, P1: what start says of the plan is what stands, and was written out.
func TestBridge(t *testing.T) {
	comesTo(t, roll.Plan())
	comesTo(t, chapterPlan())
}

// orders goes through all orders of a list.
func orders[T any](l []T, visit func([]T)) {
	if len(l) == 0 {
		visit(nil)
		return
	}
	for i, first := range l {
		rest := slices.Delete(slices.Clone(l), i, i+1)
		orders(rest, func(behind []T) { visit(append([]T{first}, behind...)) })
	}
}

// P13.5: in whatever order the packages are listed, and their imports.
func TestBridgeInAnyOrder(t *testing.T) {
	r := rand.New(rand.NewPCG(13, 1))
	count := 0
	orders(roll.Plan(), func(p []start.Pack) {
		for i, pack := range p {
			p[i].Imports = slices.Clone(pack.Imports)
			r.Shuffle(len(pack.Imports), func(a, b int) {
				p[i].Imports[a], p[i].Imports[b] = p[i].Imports[b], p[i].Imports[a]
			})
		}
		comesTo(t, p)
		count++
	})
	if count != 720 {
		t.Error("orders:", count)
	}
}

// P13.5: each package's imports in all orders, while the packages stand as they are told.
func TestBridgeOfImports(t *testing.T) {
	for i, pack := range roll.Plan() {
		orders(pack.Imports, func(imports []string) {
			p := roll.Plan()
			p[i].Imports = imports
			comesTo(t, p)
		})
	}
}

// P13.4, S2: the plan may be; the families begin in their order, each with its variable and then its two init functions, and roll behind them does nothing.
func TestWhoBegins(t *testing.T) {
	p := roll.Plan()
	if at, e := start.Check(p); at != "" || e != api.OK {
		t.Errorf("Check: %q %d", at, e)
	}
	var want []start.Stage
	for _, family := range familyNames() {
		want = append(want, start.Stage{Pack: family, Name: "table"}, start.Stage{Pack: family, Init: 1}, start.Stage{Pack: family, Init: 2})
	}
	order, e := start.Order(p)
	isList(t, "Order", order, want)
	early, f := start.Early(p)
	isList(t, "Early", early, nil)
	if e != api.OK || f != api.OK {
		t.Errorf("%d %d", e, f)
	}
}
