package tree_test

import (
	"cmp"
	"math/rand/v2"
	"slices"
	"testing"

	"reveille/api"
	"reveille/tree"
)

// isCut holds Cut at a place against the entries that must come out.
func isCut(t *testing.T, l []api.Node, i int) (rest, part []api.Node) {
	t.Helper()
	var wantRest, wantPart []entry
	all := entries(l)
	for _, x := range all {
		if x.path == all[i].path || isBeneath(x.path, all[i].path) {
			wantPart = append(wantPart, x)
		} else {
			wantRest = append(wantRest, x)
		}
	}
	rest, part, e := tree.Cut(l, i)
	if e != api.OK || !same(rest, built(wantRest)) || !same(part, built(wantPart)) {
		t.Fatalf("Cut(%v, %d): %v, %v, %d", l, i, rest, part, e)
	}
	return rest, part
}

// isGrafted holds Graft of a piece against the entries that must come out.
func isGrafted(t *testing.T, l []api.Node, at int, part []api.Node) []api.Node {
	t.Helper()
	all := entries(l)
	end := at + 1
	for end < len(all) && isBeneath(all[end].path, all[at].path) {
		end++
	}
	var new []entry
	for k := range part {
		path := ""
		for j := k; j >= 0; j = part[j].Parent {
			path = "/" + part[j].Name + path
		}
		if at > 0 {
			path = all[at].path + path
		}
		new = append(new, entry{path, part[k].Props})
	}
	got, e := tree.Graft(l, at, part)
	if e != api.OK || !same(got, built(slices.Insert(all, end, new...))) {
		t.Fatalf("Graft(%v, %d, %v): %v, %d", l, at, part, got, e)
	}
	return got
}

// P4.5: the chapter's examples.
func TestPartsExamples(t *testing.T) {
	l := example()
	rest, part, e := tree.Cut(l, 1)
	wantRest := []api.Node{{Parent: -1}, {Parent: 0, Name: "aliases", Props: l[4].Props}, {Parent: 0, Name: "off", Props: l[5].Props}, {Parent: 2, Name: "y"}}
	wantPart := []api.Node{{Parent: -1, Name: "soc", Props: l[1].Props}, {Parent: 0, Name: "uart@0", Props: l[2].Props}, {Parent: 1, Name: "x"}}
	if !same(rest, wantRest) || !same(part, wantPart) || e != api.OK {
		t.Errorf("Cut(T, 1): %v, %v, %d", rest, part, e)
	}
	back, e := tree.Graft(rest, 0, part)
	want := append(wantRest, api.Node{Parent: 0, Name: "soc", Props: l[1].Props}, api.Node{Parent: 4, Name: "uart@0", Props: l[2].Props}, api.Node{Parent: 5, Name: "x"})
	if !same(back, want) || e != api.OK {
		t.Errorf("Graft(rest, 0, piece): %v, %d", back, e)
	}
	if rest, part, e := tree.Cut(l, 0); len(rest) != 0 || len(part) != 0 || e != api.ErrArg {
		t.Errorf("Cut(T, 0): %v, %v, %d", rest, part, e)
	}
	isUngrafted(t, "a piece that is called soc", l, 0, part, api.ErrTree)
	isUngrafted(t, "no place", l, 9, part, api.ErrArg)
}

// P4.5, P4.8: each node of all small trees and of grown ones is cut, and put back.
func TestCutAndGraft(t *testing.T) {
	for _, l := range trees() {
		sorted, _ := tree.Sorted(l)
		for i := 1; i < len(l); i++ {
			rest, part := isCut(t, l, i)
			isChecked(t, rest)
			up := l[i].Parent
			back := isGrafted(t, rest, up, part)
			behind := func(n api.Node) bool { return n.Parent == up }
			if last := !slices.ContainsFunc(l[i+1:], behind); last != same(back, l) {
				t.Fatalf("%v: %d was cut and put back, the last kid: %t: %v", l, i, last, back)
			}
			if got, e := tree.Sorted(back); !same(got, sorted) || e != api.OK {
				t.Fatalf("%v: %d was cut and put back: %v", l, i, back)
			}
			if len(l) > 100 && i > 40 {
				break
			}
		}
	}
}

// P4.5: pieces at each place of a tree, in the midst too.
func TestGraftPlaces(t *testing.T) {
	for _, l := range [][]api.Node{root(), example(), wide(5), chain(9), grown(7, 30)} {
		for _, part := range [][]api.Node{piece("new", root()), piece("new", example()), piece("?", with(many(32, 1024))), piece("new", chain(7))} {
			for at := range l {
				isChecked(t, isGrafted(t, l, at, part))
			}
		}
	}
}

// isUngrafted asks that Graft refuses a piece.
func isUngrafted(t *testing.T, what string, l []api.Node, at int, part []api.Node, want api.Errno) {
	t.Helper()
	if got, e := tree.Graft(l, at, part); len(got) != 0 || e != want {
		t.Errorf("Graft, %s: %v, %d, want %d", what, got, e, want)
	}
}

// P4.5: pieces that are none, and those with which no tree comes out.
func TestGraftRefused(t *testing.T) {
	for _, part := range notTrees() {
		if len(part) == 0 {
			isUngrafted(t, "no nodes", root(), 0, part, api.ErrTree)
		} else if part[0].Name == "" {
			isUngrafted(t, "no tree", root(), 0, part, api.ErrTree)
			isUngrafted(t, "no tree, with a name", root(), 0, piece("new", part), api.ErrTree)
		}
		isUngrafted(t, "the place is asked ahead of the piece", root(), 1, part, api.ErrArg)
		isUngrafted(t, "the tree is asked first", part, 9, part, api.ErrTree)
		isUngrafted(t, "the tree is asked first", part, 0, piece("new", root()), api.ErrTree)
	}
	for _, name := range []string{"", "A", "a/b", "/", "a\x00", "é", "aaaaaaaabbbbbbbbccccccccdddddddd"} {
		isUngrafted(t, "no name: "+name, example(), 0, piece(name, root()), api.ErrTree)
	}
	isUngrafted(t, "a tree as a piece", example(), 0, example(), api.ErrTree)
	isUngrafted(t, "a parent of the first one", root(), 0, []api.Node{{Parent: 0, Name: "new"}}, api.ErrTree)
	isUngrafted(t, "a name that is taken", example(), 5, piece("y", root()), api.ErrTree)
	isUngrafted(t, "a name that is taken by a node that is not the last one", wide(9), 0, piece("k3", example()), api.ErrTree)
	isUngrafted(t, "two pieces", example(), 0, []api.Node{{Parent: -1, Name: "a"}, {Parent: -1, Name: "b"}}, api.ErrTree)
}

// P4.5: each limit of what comes out, and one past it.
func TestGraftLimits(t *testing.T) {
	isGrafted(t, wide(510), 0, piece("new", root()))
	isUngrafted(t, "the 513th node", wide(511), 0, piece("new", root()), api.ErrTree)
	isUngrafted(t, "the 513th node in the midst", wide(511), 3, piece("new", root()), api.ErrTree)
	isGrafted(t, wide(255), 4, piece("new", wide(255)))
	isUngrafted(t, "twice 257 nodes", wide(256), 4, piece("new", wide(256)), api.ErrTree)
	isGrafted(t, root(), 0, piece("new", wide(510)))
	isUngrafted(t, "a piece of 512 nodes", root(), 0, piece("new", wide(511)), api.ErrTree)
	isGrafted(t, chain(15), 14, piece("new", root()))
	isUngrafted(t, "a depth of 17", chain(16), 15, piece("new", root()), api.ErrTree)
	isGrafted(t, chain(8), 7, piece("new", chain(8)))
	isUngrafted(t, "a depth of 8 and 9", chain(8), 7, piece("new", chain(9)), api.ErrTree)
	isUngrafted(t, "a piece with a depth of 16", root(), 0, piece("new", chain(16)), api.ErrTree)
	isGrafted(t, chain(16), 14, piece("new", root()))
}

// shuffled is a tree with the same paths and props, in another order.
func shuffled(l []api.Node, r *rand.Rand) []api.Node {
	var all []entry
	names := paths(l)
	var lay func(i int)
	lay = func(i int) {
		props := slices.Clone(l[i].Props)
		r.Shuffle(len(props), func(a, b int) { props[a], props[b] = props[b], props[a] })
		all = append(all, entry{names[i], props})
		var kids []int
		for k := range l {
			if l[k].Parent == i {
				kids = append(kids, k)
			}
		}
		r.Shuffle(len(kids), func(a, b int) { kids[a], kids[b] = kids[b], kids[a] })
		for _, k := range kids {
			lay(k)
		}
	}
	lay(0)
	return built(all)
}

// pathProps are the props of a tree's nodes by their paths, each list by rising names.
func pathProps(l []api.Node) map[string][]api.Prop {
	all := map[string][]api.Prop{}
	for _, x := range entries(l) {
		props := slices.Clone(x.props)
		slices.SortFunc(props, func(a, b api.Prop) int { return cmp.Compare(a.Name, b.Name) })
		all[x.path] = props
	}
	return all
}

// isSorted asks whether a list is a tree whose kids and props stand by rising names, with the paths and props of another.
func isSorted(t *testing.T, got, l []api.Node) {
	t.Helper()
	want := pathProps(l)
	ok := wantTree(got) && len(got) == len(l)
	for i, x := range entries(got) {
		props, there := want[x.path]
		ok = ok && there && slices.Equal(x.props, props)
		for k := range i {
			ok = ok && (i == 0 || got[k].Parent != got[i].Parent || got[k].Name < got[i].Name)
		}
	}
	if !ok {
		t.Fatalf("Sorted(%v): %v", l, got)
	}
}

// P4.6, P4.9: sorted trees, of all small ones and of grown ones, whatever order they come in.
func TestSorted(t *testing.T) {
	r := rand.New(rand.NewPCG(1, 2))
	for _, l := range trees() {
		got, e := tree.Sorted(l)
		if e != api.OK {
			t.Fatalf("Sorted(%v): %d", l, e)
		}
		isSorted(t, got, l)
		again, e := tree.Sorted(got)
		if !same(again, got) || e != api.OK {
			t.Fatalf("Sorted again: %v, %d, want %v", again, e, got)
		}
		for range 3 {
			other := shuffled(l, r)
			if s, e := tree.Sorted(other); !same(s, got) || e != api.OK {
				t.Fatalf("Sorted(%v): %v, %d, want %v", other, s, e, got)
			}
			isAlike(t, l, other)
		}
		isAlike(t, l, got)
	}
	for _, l := range notTrees() {
		if got, e := tree.Sorted(l); len(got) != 0 || e != api.ErrTree {
			t.Errorf("Sorted of %d nodes: %v, %d", len(l), got, e)
		}
	}
}

// isAlike asks whether two trees with the same paths tell the same of what is enabled, of handles and of aliases.
func isAlike(t *testing.T, a, b []api.Node) {
	t.Helper()
	for path, i := range tree.Walk(a) {
		k, e := tree.Find(b, path)
		on, _ := tree.Enabled(a, i)
		if got, _ := tree.Enabled(b, k); got != on || e != api.OK {
			t.Fatalf("Enabled(%s) is %t and %t", path, on, got)
		}
		h, _ := tree.HandleOf(a, i)
		if got, _ := tree.HandleOf(b, k); got != h {
			t.Fatalf("HandleOf(%s) is %d and %d", path, h, got)
		}
		if h == 0 || slices.ContainsFunc(a[i+1:], func(n api.Node) bool { return wantHandle(n) == h }) {
			continue
		}
		if first, _ := tree.Handle(a, h); first != i {
			continue
		}
		if got, e := tree.Handle(b, h); got != k || e != api.OK {
			t.Fatalf("Handle(%d) is %s and %d", h, path, got)
		}
	}
	for _, name := range []string{"s", "t", "u"} {
		i, e := tree.Alias(a, name)
		k, f := tree.Alias(b, name)
		if e != f || paths(a)[i] != paths(b)[k] {
			t.Fatalf("Alias(%s) is %d and %d: %d, %d", name, i, k, e, f)
		}
	}
}

// P4.9: trees with unlike paths or props are sorted to unlike ones.
func TestSortedUnlike(t *testing.T) {
	all := trees()
	for i, a := range all {
		first, _ := tree.Sorted(a)
		for _, b := range all[i+1 : min(len(all), i+40)] {
			second, _ := tree.Sorted(b)
			alike := slices.Equal(sortedPaths(a), sortedPaths(b))
			for path, props := range pathProps(a) {
				alike = alike && slices.Equal(props, pathProps(b)[path])
			}
			if same(first, second) != alike {
				t.Fatalf("%v and %v: alike %t", a, b, alike)
			}
		}
	}
}

func sortedPaths(l []api.Node) []string { return slices.Sorted(slices.Values(paths(l))) }

// P4.6: names in order byte by byte, a beginning ahead of what goes on; a kid's place is by its own name, not by its path.
func TestSortedNames(t *testing.T) {
	props := []api.Prop{{Name: "b", Value: "2"}, {Name: "a0"}, {Name: "a", Value: "9"}, {Name: "_"}, {Name: "#"}}
	l := []api.Node{
		{Parent: -1, Props: props}, {Parent: 0, Name: "a0"}, {Parent: 1, Name: "z"}, {Parent: 1, Name: "+"}, {Parent: 0, Name: "a+b"}, {Parent: 0, Name: "a"}, {Parent: 5, Name: "x"}, {Parent: 0, Name: "@"}, {Parent: 0, Name: "_"}, {Parent: 0, Name: "9"}, {Parent: 0, Name: "#10"}, {Parent: 0, Name: "#9"},
	}
	want := []api.Node{
		{Parent: -1, Props: []api.Prop{{Name: "#"}, {Name: "_"}, {Name: "a", Value: "9"}, {Name: "a0"}, {Name: "b", Value: "2"}}},
		{Parent: 0, Name: "#10"}, {Parent: 0, Name: "#9"}, {Parent: 0, Name: "9"}, {Parent: 0, Name: "@"}, {Parent: 0, Name: "_"}, {Parent: 0, Name: "a"}, {Parent: 6, Name: "x"}, {Parent: 0, Name: "a+b"}, {Parent: 0, Name: "a0"}, {Parent: 9, Name: "+"}, {Parent: 9, Name: "z"},
	}
	if got, e := tree.Sorted(l); !same(got, want) || e != api.OK {
		t.Errorf("Sorted: %v, %d", got, e)
	}
}

// P4.6: lists that are the same and lists that are not, trees or none.
func TestSame(t *testing.T) {
	all := append(append(trees()[:60], notTrees()...), []api.Node{{Parent: 7, Name: "A", Props: []api.Prop{{}, {}}}})
	for i, a := range all {
		if !tree.Same(a, copied(a)) || !tree.Same(a, a) {
			t.Fatalf("Same(%v) of itself", a)
		}
		for _, b := range all[i+1:] {
			if tree.Same(a, b) != same(a, b) || tree.Same(b, a) != same(a, b) {
				t.Fatalf("Same(%v, %v): %t", a, b, !same(a, b))
			}
		}
	}
	l := example()
	for i, change := range []func(b []api.Node) []api.Node{
		func(b []api.Node) []api.Node { b[3].Parent = 1; return b },
		func(b []api.Node) []api.Node { b[0].Parent = 0; return b },
		func(b []api.Node) []api.Node { b[6].Name = "yy"; return b },
		func(b []api.Node) []api.Node { b[2].Props[0].Name = "c"; return b },
		func(b []api.Node) []api.Node { b[5].Props[0].Value = "disabled"; return b },
		func(b []api.Node) []api.Node { b[2].Props = b[2].Props[:1]; return b },
		func(b []api.Node) []api.Node { b[3].Props = []api.Prop{{}}; return b },
		func(b []api.Node) []api.Node { slices.Reverse(b[2].Props); return b },
		func(b []api.Node) []api.Node { return b[:6] },
		func(b []api.Node) []api.Node { return append(b, api.Node{}) },
		func(b []api.Node) []api.Node { return nil },
	} {
		if b := change(copied(l)); tree.Same(l, b) || tree.Same(b, l) {
			t.Errorf("change %d: the same", i)
		}
	}
	if !tree.Same(nil, []api.Node{}) || !tree.Same(with(nil), with([]api.Prop{})) {
		t.Error("a nil list and an empty one")
	}
}
