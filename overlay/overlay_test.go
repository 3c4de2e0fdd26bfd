package overlay_test

import (
	"fmt"
	"math/rand/v2"
	"slices"
	"strings"
	"testing"

	"reveille/api"
	"reveille/overlay"
	"reveille/tree"
)

// isLaid holds Lay against the chapter's words, and answers what came out.
func isLaid(t *testing.T, l []api.Node, p api.Piece) []api.Node {
	t.Helper()
	want, wantE := wantLay(l, p)
	got, e := overlay.Lay(l, p)
	if e != wantE || !same(got, want) {
		t.Fatalf("Lay(%v, %v): %v, %d, want %v, %d", l, p, got, e, want, wantE)
	}
	return got
}

// isUnlaid asks that Lay refuses a piece.
func isUnlaid(t *testing.T, what string, l []api.Node, p api.Piece, want api.Errno) {
	t.Helper()
	if got, e := overlay.Lay(l, p); len(got) != 0 || e != want {
		t.Errorf("Lay, %s: %v, %d, want %d", what, got, e, want)
	}
}

// P5.1: the chapter's examples.
func TestLayExamples(t *testing.T) {
	if got, e := overlay.Lay(example(), cape()); e != api.OK || !same(got, laidExample()) {
		t.Errorf("the cape: %v, %d", got, e)
	}
	bare := example()
	bare[1].Props = nil
	if got, e := overlay.Lay(example(), api.Piece{Target: "/a", Nodes: root(), Drop: []string{"p"}}); e != api.OK || !same(got, bare) {
		t.Errorf("Drop p: %v, %d", got, e)
	}
	isUnlaid(t, "no target", example(), api.Piece{Target: "/c", Nodes: root()}, api.ErrTarget)
	isUnlaid(t, "dropped and brought", example(), api.Piece{Target: "/a", Nodes: root(prop("p", "2")), Drop: []string{"p"}}, api.ErrPiece)
	isUnlaid(t, "no nodes", example(), api.Piece{Target: "/a"}, api.ErrPiece)
}

// P5.1: pieces that may be, at the limits too.
func TestCheck(t *testing.T) {
	for what, p := range map[string]api.Piece{
		"the cape":            cape(),
		"the root alone":      {Target: "/", Nodes: root()},
		"no target":           {Nodes: root()},
		"any bytes as target": {Target: "no path\x00\xff", Nodes: root()},
		"a long target":       {Target: strings.Repeat("/x", 5000), Nodes: root()},
		"32 names to drop":    {Nodes: root(prop("q", "")), Drop: names(32)},
		"32 props and names":  {Nodes: root(many(32)...), Drop: []string{"q", strings.Repeat("a", 31)}},
		"a kid's prop":        {Nodes: append(root(), api.Node{Parent: 0, Name: "k", Props: many(3)}), Drop: names(3)},
		"a kid's name":        {Nodes: wide(3), Drop: []string{"k1"}},
		"512 nodes":           {Nodes: wide(511)},
		"16 deep":             {Nodes: chain(16)},
		"a great value":       {Nodes: root(prop("p", strings.Repeat("v", 1024)))},
	} {
		if e := overlay.Check(p); e != api.OK || !wantPiece(p) {
			t.Errorf("%s: %d", what, e)
		}
	}
}

// P5.1: pieces that may not be are refused by Check, and by Lay.
func TestCheckRefused(t *testing.T) {
	refused := map[string]api.Piece{
		"33 names to drop":             {Target: "/", Nodes: root(), Drop: names(33)},
		"a name twice":                 {Target: "/", Nodes: root(), Drop: []string{"p", "q", "p"}},
		"dropped and brought":          {Target: "/", Nodes: root(prop("q", ""), prop("p", "")), Drop: []string{"r", "p"}},
		"the last one of 32":           {Target: "/", Nodes: root(many(32)...), Drop: []string{"p31"}},
		"a name twice that is nowhere": {Target: "/nobody", Nodes: root(), Drop: []string{"no", "no"}},
	}
	for i, l := range notTrees() {
		refused[fmt.Sprint("no tree ", i)] = api.Piece{Target: "/", Nodes: l}
	}
	for _, name := range notNames() {
		refused["no name to drop: "+name] = api.Piece{Target: "/", Nodes: root(), Drop: []string{"p", name}}
	}
	for what, p := range refused {
		if e := overlay.Check(p); e != api.ErrPiece || wantPiece(p) {
			t.Errorf("%s: %d", what, e)
		}
		isUnlaid(t, what, example(), p, api.ErrPiece)
	}
}

// P5.1: of several errors the first one of the chapter's row is answered.
func TestLayErrors(t *testing.T) {
	good, bad := api.Piece{Target: "/", Nodes: root()}, api.Piece{Target: "/nobody", Drop: []string{""}}
	for i, l := range notTrees() {
		isUnlaid(t, fmt.Sprint("no tree ", i), l, good, api.ErrTree)
		isUnlaid(t, fmt.Sprint("no tree, no piece ", i), l, bad, api.ErrTree)
	}
	isUnlaid(t, "no piece, no target", example(), bad, api.ErrPiece)
	for _, target := range []string{"", "a", "/a/", "//", "/a//x", "a/x", "/nobody", "/A", "/x", "/a/x/y", "/a\x00", "1"} {
		isUnlaid(t, "target "+target, example(), api.Piece{Target: target, Nodes: root()}, api.ErrTarget)
		isUnlaid(t, "no target, and too much: "+target, wide(511), api.Piece{Target: target, Nodes: chain(2)}, api.ErrTarget)
	}
}

// P5.1: what comes out has the limits of a tree.
func TestLayLimits(t *testing.T) {
	full := root(many(32)...)
	for _, c := range []struct {
		what string
		l    []api.Node
		p    api.Piece
		want api.Errno
	}{
		{"the 512th node", wide(510), api.Piece{Target: "/k9", Nodes: chain(2)}, api.OK},
		{"the 513th node", wide(511), api.Piece{Target: "/k9", Nodes: chain(2)}, api.ErrTree},
		{"as many as there are", wide(511), api.Piece{Target: "/", Nodes: wide(511)}, api.OK},
		{"1023 nodes", wide(511), api.Piece{Target: "/k0", Nodes: wide(511)}, api.ErrTree},
		{"a depth of 16", chain(15), api.Piece{Target: "/c/c/c/c/c/c/c/c/c/c/c/c/c/c", Nodes: chain(2)}, api.OK},
		{"a depth of 17", chain(16), api.Piece{Target: "/c/c/c/c/c/c/c/c/c/c/c/c/c/c/c", Nodes: chain(2)}, api.ErrTree},
		{"16 deep over as many", chain(16), api.Piece{Target: "/", Nodes: chain(16)}, api.OK},
		{"16 deep, one node down", chain(16), api.Piece{Target: "/c", Nodes: chain(16)}, api.ErrTree},
		{"the 33rd prop", full, api.Piece{Target: "/", Nodes: root(prop("q", ""))}, api.ErrTree},
		{"the 33rd prop of a kid", append(root(), api.Node{Parent: 0, Name: "k", Props: many(32)}), api.Piece{Target: "/", Nodes: append(root(), api.Node{Parent: 0, Name: "k", Props: []api.Prop{prop("q", "")}})}, api.ErrTree},
		{"other values of all", full, api.Piece{Target: "/", Nodes: root(many(32)...)}, api.OK},
		{"one for one", full, api.Piece{Target: "/", Nodes: root(prop("q", "")), Drop: []string{"p7"}}, api.OK},
		{"one for another that is not there", full, api.Piece{Target: "/", Nodes: root(prop("q", "")), Drop: []string{"p32"}}, api.ErrTree},
		{"all for all", full, api.Piece{Target: "/", Nodes: root(prop("q", "")), Drop: names(32)}, api.OK},
	} {
		isLaid(t, c.l, c.p)
		if _, e := overlay.Lay(c.l, c.p); e != c.want {
			t.Errorf("%s: %d, want %d", c.what, e, c.want)
		}
	}
}

// P5.1: where props and nodes stand.
func TestLayOrder(t *testing.T) {
	l := append(root(prop("a", "1"), prop("b", "2"), prop("c", "3")), api.Node{Parent: 0, Name: "m"}, api.Node{Parent: 1, Name: "n"}, api.Node{Parent: 0, Name: "o"})
	p := api.Piece{Target: "/", Drop: []string{"b"}, Nodes: append(root(prop("z", "4"), prop("c", "5"), prop("y", "6")),
		api.Node{Parent: 0, Name: "k"}, api.Node{Parent: 1, Name: "n"}, api.Node{Parent: 0, Name: "m"}, api.Node{Parent: 3, Name: "b"}, api.Node{Parent: 0, Name: "j"})}
	want := append(root(prop("a", "1"), prop("c", "5"), prop("z", "4"), prop("y", "6")),
		api.Node{Parent: 0, Name: "m"}, api.Node{Parent: 1, Name: "n"}, api.Node{Parent: 1, Name: "b"}, api.Node{Parent: 0, Name: "o"}, api.Node{Parent: 0, Name: "k"}, api.Node{Parent: 5, Name: "n"}, api.Node{Parent: 0, Name: "j"})
	if got, e := overlay.Lay(l, p); e != api.OK || !same(got, want) {
		t.Errorf("%v, %d", got, e)
	}
}

// P5.1: Drop takes from the target alone.
func TestDropOfTarget(t *testing.T) {
	l := append(root(prop("p", "0")), api.Node{Parent: 0, Name: "a", Props: []api.Prop{prop("p", "1"), prop("q", "")}}, api.Node{Parent: 1, Name: "a", Props: []api.Prop{prop("p", "2")}})
	want := copied(l)
	want[1].Props = want[1].Props[1:]
	p := api.Piece{Target: "/a", Nodes: append(root(), api.Node{Parent: 0, Name: "a"}), Drop: []string{"nobody", "p"}}
	if got, e := overlay.Lay(l, p); e != api.OK || !same(got, want) {
		t.Errorf("%v, %d", got, e)
	}
}

// P5.1: all small pieces over all small trees, at each node.
func TestLaySmall(t *testing.T) {
	lists(4, []string{"a", "b"}, func(l []api.Node) {
		lists(3, []string{"a", "b"}, func(nodes []api.Node) {
			for _, target := range paths(l) {
				isLaid(t, l, api.Piece{Target: target, Nodes: nodes})
			}
		})
	})
}

// grownOnes goes through grown trees, each with a piece that can be laid over it, and what comes out.
func grownOnes(t *testing.T, do func(r *rand.Rand, l []api.Node, p api.Piece, laid []api.Node)) {
	t.Helper()
	for seed := range uint64(1500) {
		r := rand.New(rand.NewPCG(seed, 5))
		l := grown(r, 1+r.IntN(20))
		p := cut(r, l, 1+r.IntN(12))
		if laid := isLaid(t, l, p); len(laid) > 0 {
			do(r, l, p, laid)
		}
	}
}

// named says of each path and prop there whether the piece names it, by a count.
func named(p api.Piece) map[string]int {
	all := map[string]int{}
	for _, name := range p.Drop {
		all[p.Target+" "+name]++
	}
	for i, path := range paths(p.Nodes) {
		for _, x := range p.Nodes[i].Props {
			all[under(p.Target, path)+" "+x.Name]++
		}
	}
	return all
}

// under is the path of a piece's node in the tree.
func under(target, path string) string {
	if path == "/" {
		return target
	}
	return strings.TrimSuffix(target, "/") + path
}

// P5.1, P5.3: what comes out of grown trees and pieces; all nodes stay, and all props that the piece does not name; laid twice is laid once; the empty piece changes nothing.
func TestLayGrown(t *testing.T) {
	done := 0
	grownOnes(t, func(r *rand.Rand, l []api.Node, p api.Piece, laid []api.Node) {
		done++
		names := named(p)
		for i, path := range paths(l) {
			at := slices.Index(paths(laid), path)
			if at < 0 {
				t.Fatalf("Lay(%v, %v): no %s in %v", l, p, path, laid)
			}
			for _, x := range l[i].Props {
				if names[path+" "+x.Name] == 0 && !slices.Contains(laid[at].Props, x) {
					t.Fatalf("Lay(%v, %v): %s has not %v in %v", l, p, path, x, laid)
				}
			}
		}
		if again := isLaid(t, laid, p); !same(again, laid) {
			t.Fatalf("%v laid twice: %v, once: %v", p, again, laid)
		}
		for _, path := range paths(l) {
			if got := isLaid(t, l, api.Piece{Target: path, Nodes: root()}); !same(got, l) {
				t.Fatalf("the empty piece at %s: %v of %v", path, got, l)
			}
		}
	})
	if done < 1000 {
		t.Errorf("only %d pieces were laid", done)
	}
}

// P5.4: two pieces that drop nothing, bring no node and name no prop both, in either order.
func TestBesideOneAnother(t *testing.T) {
	done := 0
	grownOnes(t, func(r *rand.Rand, l []api.Node, a api.Piece, laid []api.Node) {
		a.Drop = nil
		first := isLaid(t, l, a)
		for range 20 {
			b := cut(r, l, 1+r.IntN(4))
			b.Drop = nil
			if len(first) != len(l) || isBoth(named(a), named(b)) {
				continue
			}
			second := isLaid(t, l, b)
			if len(second) != len(l) {
				continue
			}
			done++
			ab, _ := tree.Sorted(isLaid(t, first, b))
			ba, _ := tree.Sorted(isLaid(t, second, a))
			if len(ab) == 0 || !same(ab, ba) {
				t.Fatalf("%v with %v and %v: %v, %v", l, a, b, ab, ba)
			}
		}
	})
	if done < 300 {
		t.Errorf("only %d pairs were laid", done)
	}
}

func isBoth(a, b map[string]int) bool {
	for k := range a {
		if b[k] > 0 {
			return true
		}
	}
	return false
}
