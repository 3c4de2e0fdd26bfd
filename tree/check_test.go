package tree_test

import (
	"fmt"
	"math"
	"slices"
	"strings"
	"testing"

	"reveille/api"
	"reveille/tree"
)

func wantName(s string) bool {
	return len(s) >= 1 && len(s) <= 31 && strings.Trim(s, "abcdefghijklmnopqrstuvwxyz0123456789,._+-@#?") == ""
}

// preorder goes through the places of a node and all beneath it, as they must stand, with the depth of each.
func preorder(l []api.Node, i, depth int, do func(i, depth int)) {
	do(i, depth)
	for k := i + 1; k < len(l); k++ {
		if l[k].Parent == i {
			preorder(l, k, depth+1, do)
		}
	}
}

// wantTree says whether a list is a tree, by DOC.md's words one by one.
func wantTree(l []api.Node) bool {
	if len(l) == 0 || len(l) > 512 || l[0].Parent != -1 || l[0].Name != "" {
		return false
	}
	kids := map[string]bool{}
	for i, n := range l {
		if i > 0 && (!wantName(n.Name) || n.Parent < 0 || n.Parent >= i) {
			return false
		}
		kid := fmt.Sprint(n.Parent, "/", n.Name)
		props := map[string]bool{}
		for _, p := range n.Props {
			if !wantName(p.Name) || props[p.Name] || len(p.Value) > 1024 {
				return false
			}
			props[p.Name] = true
		}
		if kids[kid] || len(n.Props) > 32 {
			return false
		}
		kids[kid] = true
	}
	ok, next := true, 0
	preorder(l, 0, 1, func(i, depth int) {
		ok = ok && i == next && depth <= 16
		next++
	})
	return ok && next == len(l)
}

// isChecked holds Check of a list against what it must tell. (A tree's beginnings are trees: so nodes that are none begin none.)
func isChecked(t *testing.T, l []api.Node) {
	t.Helper()
	at, want := 0, api.OK
	if !wantTree(l) {
		want = api.ErrTree
		for at < len(l) && wantTree(l[:at+1]) {
			at++
		}
	}
	if got, e := tree.Check(l); got != at || e != want {
		t.Fatalf("Check(%+v): %d, %d, want %d, %d", l, got, e, at, want)
	}
}

// wantCheck asks of a long list what Check must tell of it.
func wantCheck(t *testing.T, what string, l []api.Node, at int, want api.Errno) {
	t.Helper()
	if got, e := tree.Check(l); got != at || e != want {
		t.Errorf("Check, %s: %d, %d, want %d, %d", what, got, e, at, want)
	}
}

// P4.1: the chapter's examples.
func TestCheckExamples(t *testing.T) {
	wantCheck(t, "T", example(), 0, api.OK)
	wantCheck(t, "nothing", nil, 0, api.ErrTree)
	wantCheck(t, "nothing", []api.Node{}, 0, api.ErrTree)
	wantCheck(t, "a second soc", append(example(), api.Node{Parent: 0, Name: "soc"}), 7, api.ErrTree)
	wantCheck(t, "not in preorder", slices.Insert(example(), 5, api.Node{Parent: 2, Name: "z"}), 5, api.ErrTree)
	wantCheck(t, "one name beneath two nodes", append(example(), api.Node{Parent: 5, Name: "soc"}), 0, api.OK)
}

// P4.1: all short lists, in order or not, with names or without.
func TestCheckShort(t *testing.T) {
	look := func(l []api.Node) { isChecked(t, l) }
	behind := func(l []api.Node) { look(append(root(), l...)) }
	lists(2, []int{-2, -1, 0, 1, 2, math.MaxInt, math.MinInt}, []string{"", "a", "A", "/", "a/b", "\x00"}, look)
	lists(3, []int{-1, 0, 1, 2, 3}, []string{"", "a"}, look)
	lists(4, []int{-1, 0, 1, 2, 3, 4}, []string{"a", "b"}, behind)
	lists(5, []int{0, 1, 2, 3, 4}, []string{"a"}, behind)
}

// P4.1: each byte in a node's name and in a prop's; the lengths of both.
func TestCheckNames(t *testing.T) {
	var names []string
	for c := range 256 {
		one := string([]byte{byte(c)})
		names = append(names, one, "a"+one, one+"a", "a"+one+"a")
	}
	names = append(names, "", strings.Repeat("a", 31), strings.Repeat("a", 32), strings.Repeat("a", 1<<16), "é")
	for _, name := range names {
		isChecked(t, with(nil, name))
		isChecked(t, with(nil, "a1", name, "a2"))
		isChecked(t, with([]api.Prop{{Name: name}}))
		isChecked(t, append(wide(2), api.Node{Parent: 2, Name: "x", Props: []api.Prop{{Name: "p1"}, {Name: name}, {Name: "p2"}}}))
		isChecked(t, []api.Node{{Parent: -1, Name: name}})
	}
}

// P4.1: each limit, and one past it.
func TestCheckLimits(t *testing.T) {
	wantCheck(t, "512 nodes", wide(511), 0, api.OK)
	wantCheck(t, "513 nodes", wide(512), 512, api.ErrTree)
	wantCheck(t, "far too many nodes", wide(5000), 512, api.ErrTree)
	wantCheck(t, "a depth of 16", chain(16), 0, api.OK)
	wantCheck(t, "a depth of 17", chain(17), 16, api.ErrTree)
	wantCheck(t, "a depth of 17, and more behind it", append(chain(17), api.Node{Parent: 0, Name: "z"}), 16, api.ErrTree)
	wantCheck(t, "a depth of 16 twice", append(append(chain(16), api.Node{Parent: 14, Name: "d"}), api.Node{Parent: 0, Name: "d"}), 0, api.OK)
	wantCheck(t, "32 props", with(many(32, 0), "a"), 0, api.OK)
	wantCheck(t, "33 props", with(many(33, 0), "a"), 0, api.ErrTree)
	wantCheck(t, "33 props of a kid", []api.Node{{Parent: -1}, {Parent: 0, Name: "a"}, {Parent: 1, Name: "b", Props: many(33, 0)}}, 2, api.ErrTree)
	wantCheck(t, "values of 1024 bytes", with(many(32, 1024)), 0, api.OK)
	wantCheck(t, "a value of 1025 bytes", with(append(many(5, 1024), api.Prop{Name: "q", Value: strings.Repeat("v", 1025)})), 0, api.ErrTree)
	wantCheck(t, "a prop twice", with([]api.Prop{{Name: "p", Value: "1"}, {Name: "q"}, {Name: "p", Value: "2"}}), 0, api.ErrTree)
	wantCheck(t, "a prop of one name at two nodes", append(with(many(1, 1)), api.Node{Parent: 0, Name: "p0", Props: many(1, 1)}), 0, api.OK)
	full := wide(511)
	for i := range full {
		full[i].Props = many(32, 0)
	}
	wantCheck(t, "all full", full, 0, api.OK)
}

// P4.1: of several faults the place of the first one, whatever kinds they are of.
func TestCheckFirst(t *testing.T) {
	faults := []api.Node{
		{Parent: -1, Name: "n"}, {Parent: -1}, {Parent: 0}, {Parent: 0, Name: "N"}, {Parent: 9, Name: "n"}, {Parent: 0, Name: "n", Props: many(33, 0)},
		{Parent: 0, Name: "n", Props: many(1, 1025)}, {Parent: 0, Name: "n", Props: []api.Prop{{Name: "P"}}}, {Parent: 0, Name: "k0"},
	}
	for _, first := range faults {
		for _, second := range faults {
			l := append(wide(3), first, api.Node{Parent: 0, Name: "m"}, second)
			wantCheck(t, fmt.Sprintf("%+v, %+v", first, second), l, 4, api.ErrTree)
		}
	}
	for _, l := range trees() {
		wantCheck(t, "a tree", l, 0, api.OK)
		for i := range l[:min(len(l), 20)] {
			bad := copied(l)
			bad[i].Name += "/"
			isChecked(t, bad)
			bad = copied(l)
			bad[i].Parent++
			isChecked(t, bad)
			if i > 0 {
				isChecked(t, slices.Delete(copied(l), i, i+1))
			}
		}
	}
}
