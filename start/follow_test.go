package start_test

import (
	"fmt"
	"math/rand/v2"
	"slices"
	"strings"
	"testing"

	"reveille/api"
	"reveille/start"
)

// answers is all that the calls tell of a plan, as a text.
func answers(p start.Plan) string {
	var b strings.Builder
	at, e := start.Check(p)
	fmt.Fprintln(&b, at, e)
	l, e := start.Order(p)
	fmt.Fprintln(&b, l, e)
	r, e := start.Run(p)
	fmt.Fprintln(&b, r, e)
	early, e := start.Early(p)
	fmt.Fprintln(&b, early, e)
	lazy, e := start.Lazy(p)
	fmt.Fprintln(&b, lazy, e)
	for _, s := range l {
		if s.Init == 0 {
			deps, e := start.Deps(p, s.Pack, s.Name)
			fmt.Fprintln(&b, s.Name, deps, e)
		}
	}
	return b.String()
}

// P6.7: in which order packages, Imports and functions are listed is not seen; nor that of what an expression names.
func TestListsOrder(t *testing.T) {
	r := rand.New(rand.NewPCG(1, 6))
	for _, p := range plans() {
		turned := copied(p)
		turn(r, turned)
		for i := range turned {
			turn(r, turned[i].Imports)
			turn(r, turned[i].Funcs)
			for _, v := range turned[i].Vars {
				turn(r, v.Expr.Reads)
				turn(r, v.Expr.Calls)
				turn(r, v.Expr.Hidden)
			}
		}
		if a, b := answers(p), answers(turned); a != b {
			t.Fatalf("%+v is seen in another order:\n%s\n%s", p, a, b)
		}
		packs, e := start.Rings(p)
		if again, f := start.Rings(changed(p, slices.Reverse[start.Plan])); !same(packs, again) || e != f {
			t.Fatalf("Rings(%+v): %v, in another order %v", p, packs, again)
		}
	}
}

func turn[T any](r *rand.Rand, l []T) {
	r.Shuffle(len(l), func(i, k int) { l[i], l[k] = l[k], l[i] })
}

// P6.7: in which order variables are declared is seen.
func TestDeclaredOrder(t *testing.T) {
	p := alone(variable("x", 1, start.Expr{}), variable("y", 1, start.Expr{}))
	q := alone(p[0].Vars[1], p[0].Vars[0])
	isOrder(t, "x, y", p, "a.x", "a.y")
	isOrder(t, "y, x", q, "a.y", "a.x")
	if r, _ := start.Run(q); len(r.Values) != 2 || r.Values[0].Name != "y" {
		t.Errorf("Values of y, x: %+v", r.Values)
	}
}

// P6.7: each package stands behind what it imports, or else by its path; each variable behind what it depends on.
func TestOrderFollows(t *testing.T) {
	for _, p := range ringless() {
		l, _ := start.Order(p)
		leads := model{p}.importing().closed()
		var packs []string // in which order they begin
		for i, s := range l {
			if !slices.Contains(packs, s.Pack) {
				packs = append(packs, s.Pack)
			} else if packs[len(packs)-1] != s.Pack {
				t.Fatalf("Order(%+v): %s is left and begun again", p, s.Pack)
			}
			deps, _ := start.Deps(p, s.Pack, s.Name)
			for _, name := range deps {
				if !slices.Contains(l[:i], start.Stage{Pack: s.Pack, Name: name}) {
					t.Fatalf("Order(%+v): %s stands ahead of %s", p, s.Name, name)
				}
			}
		}
		for i, a := range packs {
			for _, b := range packs[i+1:] {
				if leads[[2]string{a, b}] {
					t.Fatalf("Order(%+v): %s stands ahead of %s", p, a, b)
				}
				// Packages of which no stage is told may be waited for, too.
				waits := slices.ContainsFunc(p, func(q start.Pack) bool {
					return leads[[2]string{b, q.Path}] && !slices.Contains(packs[:i], q.Path)
				})
				if b < a && !waits {
					t.Fatalf("Order(%+v): %s stands ahead of %s", p, a, b)
				}
			}
		}
	}
}

// P6.8: where nothing is hidden, asking comes to what the start-up comes to.
func TestLazyIsRun(t *testing.T) {
	for _, p := range ringless() {
		open := unhidden(p)
		r, e := start.Run(open)
		l, f := start.Lazy(open)
		if !same(r.Values, l) || e != api.OK || f != api.OK {
			t.Fatalf("Run(%+v): %+v, %d; Lazy: %+v, %d", open, r.Values, e, l, f)
		}
		if hidden, e := start.Lazy(p); !same(hidden, l) || e != api.OK {
			t.Fatalf("Lazy(%+v) reads what is hidden: %+v, %d", p, hidden, e)
		}
	}
}

// unhidden is a plan without what is hidden.
func unhidden(p start.Plan) start.Plan {
	return changed(p, func(p start.Plan) {
		for _, k := range p {
			for i := range k.Vars {
				k.Vars[i].Expr.Hidden = nil
			}
			for i := range k.Funcs {
				k.Funcs[i].Expr.Hidden = nil
			}
		}
	})
}

// P6.8: where nothing is early, and Hidden reads of what is imported alone, it may as well be read by name.
func TestHiddenAsReads(t *testing.T) {
	held := 0
	for seed := range uint64(8000) {
		p := grown(seed, true)
		if rings, _ := (model{p}).rings(); len(rings) > 0 {
			continue
		}
		early, _ := start.Early(p)
		told, ok := shown(p)
		if len(early) > 0 || !ok || !(model{told}).mayBe() || same(p, told) {
			continue
		}
		held++
		a, e := start.Run(p)
		b, f := start.Run(told)
		if !same(a.Values, b.Values) || e != api.OK || f != api.OK {
			t.Fatalf("Run(%+v): %+v, %d; of all by name: %+v, %d", p, a.Values, e, b.Values, f)
		}
	}
	if held < 100 {
		t.Errorf("%d plans alone", held)
	}
}

// shown is a plan whose Hidden are Reads, and false if one of them is of a package that is not imported, straight or through others.
func shown(p start.Plan) (start.Plan, bool) {
	leads := model{p}.importing().closed()
	ok := true
	show := func(k *start.Pack, e *start.Expr) {
		for _, r := range e.Hidden {
			if r.Pack == k.Path {
				r.Pack = ""
			}
			ok = ok && (r.Pack == "" || leads[[2]string{k.Path, r.Pack}])
			if r.Pack != "" && !slices.Contains(k.Imports, r.Pack) {
				k.Imports = append(k.Imports, r.Pack)
			}
			e.Reads = append(e.Reads, r)
		}
		e.Hidden = nil
	}
	q := changed(p, func(q start.Plan) {
		for i := range q {
			for j := range q[i].Vars {
				show(&q[i], &q[i].Vars[j].Expr)
			}
			for j := range q[i].Funcs {
				show(&q[i], &q[i].Funcs[j].Expr)
			}
		}
	})
	return q, ok
}
