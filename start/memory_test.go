package start_test

import (
	"reflect"
	"testing"

	"reveille/api"
	"reveille/start"
)

// roomy is a copy of a list with spare room behind its end, in which something stands.
func roomy[T any](l []T, spare T) []T {
	return append(append([]T(nil), l...), spare, spare)[:len(l)]
}

// roomyPlan is a copy of a plan of which each list has such room.
func roomyPlan(p start.Plan) start.Plan {
	spare := read("spare", 9)
	expr := func(e start.Expr) start.Expr {
		e.Reads, e.Calls, e.Hidden = roomy(e.Reads, spare), roomy(e.Calls, call("spare")), roomy(e.Hidden, spare)
		return e
	}
	p = copied(p)
	for i := range p {
		k := &p[i]
		for j := range k.Vars {
			k.Vars[j].Expr = expr(k.Vars[j].Expr)
		}
		for j := range k.Funcs {
			k.Funcs[j].Expr = expr(k.Funcs[j].Expr)
		}
		for j := range k.Inits {
			k.Inits[j] = roomy(k.Inits[j], enter())
		}
		k.Imports, k.Vars = roomy(k.Imports, "spare"), roomy(k.Vars, variable("spare", 1, start.Expr{}))
		k.Funcs, k.Inits = roomy(k.Funcs, function("spare", start.Expr{})), roomy(k.Inits, []start.Step{enter()})
	}
	return roomy(p, start.Pack{Path: "spare"})
}

// whole is a list with the room behind its end.
func whole[T any](l []T) []T { return l[:cap(l)] }

// rooms are all lists of a plan with the room behind their ends.
func rooms(p start.Plan) []any {
	all := []any{whole(p)}
	expr := func(e start.Expr) { all = append(all, whole(e.Reads), whole(e.Calls), whole(e.Hidden)) }
	for _, k := range p {
		all = append(all, whole(k.Imports), whole(k.Vars), whole(k.Funcs), whole(k.Inits))
		for _, v := range k.Vars {
			expr(v.Expr)
		}
		for _, f := range k.Funcs {
			expr(f.Expr)
		}
		for _, steps := range k.Inits {
			all = append(all, whole(steps))
		}
	}
	return all
}

// R3: no call changes what it is handed, with the room behind its end.
func TestArgumentsStay(t *testing.T) {
	ring := withFuncs(busy(), function("f", calls("f")))
	turned := start.Plan{busy()[3], busy()[2], busy()[0], busy()[1]}
	for _, p := range []start.Plan{busy(), ring, turned, families(), packs(33), alone(variable("x", 0, start.Expr{}))} {
		room, want := roomyPlan(p), rooms(roomyPlan(p))
		start.Check(room)
		start.Order(room)
		start.Run(room)
		start.Deps(room, "a", "x")
		start.Rings(room)
		start.Early(room)
		start.Lazy(room)
		if !reflect.DeepEqual(rooms(room), want) {
			t.Errorf("an argument has changed: %+v", room)
		}
	}
}

// R3: no two lists of an answer share memory, and no answer shares any with a later one.
func TestAnswersAreNew(t *testing.T) {
	run := func() []start.Value { r, _ := start.Run(busy()); return r.Values }
	lazy := func() []start.Value { l, _ := start.Lazy(busy()); return l }
	for _, ask := range []func() []start.Value{run, lazy} {
		want := ask()
		for i := range want {
			l := ask()
			nums := whole(l[i].Nums)
			for k := range nums {
				nums[k] = 99
			}
			l[i] = want[i]
			if !same(l, want) || !same(ask(), want) {
				t.Errorf("the numbers of %s are shared", want[i].Name)
			}
		}
	}
	rings := func() [][]string {
		l, e := start.Rings(alone(variable("x", 1, reads("x")), variable("y", 1, reads("y")), variable("z", 1, reads("z"))))
		if len(l) != 3 || e != api.OK {
			t.Fatalf("Rings: %v, %d", l, e)
		}
		return l
	}
	want := rings()
	for i := range want {
		l := rings()
		for k := range whole(l[i]) {
			whole(l[i])[k] = "spoilt"
		}
		l[i] = want[i]
		if !same(l, want) || !same(rings(), want) {
			t.Errorf("the ring %d is shared", i)
		}
	}
}
