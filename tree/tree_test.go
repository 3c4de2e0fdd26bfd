package tree_test

import (
	"fmt"
	"math"
	"slices"
	"strings"
	"testing"

	"reveille/api"
	"reveille/tree"
)

// ask is a call with a place, whose answers are told as a text; zero is what it tells beside an error.
type ask struct {
	name string
	call func(l []api.Node, i int) (string, api.Errno)
	zero string
}

func told[T any](x T, e api.Errno) (string, api.Errno) { return fmt.Sprintf("%+v", x), e }

// asks are all calls with a place.
func asks() []ask {
	return []ask{
		{"Path", func(l []api.Node, i int) (string, api.Errno) { return tree.Path(l, i) }, ""},
		{"Depth", func(l []api.Node, i int) (string, api.Errno) { return told(tree.Depth(l, i)) }, "0"},
		{"Kids", func(l []api.Node, i int) (string, api.Errno) { return told(tree.Kids(l, i)) }, "[]"},
		{"End", func(l []api.Node, i int) (string, api.Errno) { return told(tree.End(l, i)) }, "0"},
		{"Value", func(l []api.Node, i int) (string, api.Errno) { return tree.Value(l, i, "status") }, ""},
		{"Value of nothing", func(l []api.Node, i int) (string, api.Errno) { return tree.Value(l, i, "") }, ""},
		{"HandleOf", func(l []api.Node, i int) (string, api.Errno) { return told(tree.HandleOf(l, i)) }, "0"},
		{"Enabled", func(l []api.Node, i int) (string, api.Errno) { return told(tree.Enabled(l, i)) }, "false"},
		{"Compat", func(l []api.Node, i int) (string, api.Errno) { return told(tree.Compat(l, i)) }, "[]"},
		{"Plain", func(l []api.Node, i int) (string, api.Errno) { return told(tree.Plain(l, i)) }, "false"},
		{"Cut", func(l []api.Node, i int) (string, api.Errno) {
			rest, piece, e := tree.Cut(l, i)
			return fmt.Sprint(rest, piece), e
		}, "[] []"},
		{"Graft", func(l []api.Node, i int) (string, api.Errno) { return told(tree.Graft(l, i, piece("new", root()))) }, "[]"},
	}
}

// P4.2, P4.3, P4.5: what is no tree is refused ahead of a place that is none.
func TestPlacesRefused(t *testing.T) {
	for _, a := range asks() {
		refused := func(l []api.Node, i int, want api.Errno) {
			if s, e := a.call(l, i); s != a.zero || e != want {
				t.Errorf("%s(%d nodes, %d): %s, %d, want %d", a.name, len(l), i, s, e, want)
			}
		}
		for _, l := range notTrees() {
			for _, i := range append(places(l), 0, 1) {
				refused(l, i, api.ErrTree)
			}
		}
		for _, l := range [][]api.Node{example(), root(), wide(511)} {
			for _, i := range places(l) {
				refused(l, i, api.ErrArg)
			}
		}
	}
}

// P4.2: the chapter's examples.
func TestPathExamples(t *testing.T) {
	l := example()
	for i, want := range []string{"/", "/soc", "/soc/uart@0", "/soc/uart@0/x", "/aliases", "/off", "/off/y"} {
		if s, e := tree.Path(l, i); s != want || e != api.OK {
			t.Errorf("Path(%d): %s, %d", i, s, e)
		}
		if k, e := tree.Find(l, want); k != i || e != api.OK {
			t.Errorf("Find(%s): %d, %d", want, k, e)
		}
	}
	if _, e := tree.Find(l, "/soc/"); e != api.ErrNone {
		t.Errorf("Find(/soc/): %d", e)
	}
	if d, e := tree.Depth(l, 3); d != 4 || e != api.OK {
		t.Errorf("Depth(3): %d, %d", d, e)
	}
	if k, e := tree.Kids(l, 0); !slices.Equal(k, []int{1, 4, 5}) || e != api.OK {
		t.Errorf("Kids(0): %d, %d", k, e)
	}
	for i, want := range []int{7, 4, 4, 4, 5, 7, 7} {
		if end, e := tree.End(l, i); end != want || e != api.OK {
			t.Errorf("End(%d): %d, %d", i, end, e)
		}
	}
	if v, e := tree.Value(l, 1, "phandle"); v != "\x00\x00\x00\x07" || e != api.OK {
		t.Errorf("Value(1, phandle): %q, %d", v, e)
	}
}

// P4.2, P4.7: paths, depths, kids and ends of all small trees and of grown ones.
func TestPaths(t *testing.T) {
	for _, l := range trees() {
		all := paths(l)
		for i, path := range all {
			if s, e := tree.Path(l, i); s != path || e != api.OK {
				t.Fatalf("Path(%v, %d): %s, %d, want %s", l, i, s, e, path)
			}
			if k, e := tree.Find(l, path); k != i || e != api.OK {
				t.Fatalf("Find(%v, %s): %d, %d, want %d", l, path, k, e, i)
			}
			depth, end := 1, i+1
			var kids []int
			for k, other := range all {
				switch {
				case isBeneath(path, other):
					depth++
				case isBeneath(other, path):
					end++
					if l[k].Parent == i {
						kids = append(kids, k)
					}
				}
			}
			if d, e := tree.Depth(l, i); d != depth || e != api.OK {
				t.Fatalf("Depth(%v, %d): %d, %d, want %d", l, i, d, e, depth)
			}
			if k, e := tree.Kids(l, i); !slices.Equal(k, kids) || e != api.OK {
				t.Fatalf("Kids(%v, %d): %d, %d, want %d", l, i, k, e, kids)
			}
			if z, e := tree.End(l, i); z != end || e != api.OK {
				t.Fatalf("End(%v, %d): %d, %d, want %d", l, i, z, e, end)
			}
		}
	}
}

// P4.2, P4.7: of all short texts just the paths are found.
func TestFindTexts(t *testing.T) {
	l := []api.Node{{Parent: -1}, {Parent: 0, Name: "a"}, {Parent: 1, Name: "b"}, {Parent: 1, Name: "ab"}, {Parent: 0, Name: "b"}, {Parent: 4, Name: "a"}, {Parent: 5, Name: "a"}}
	all := paths(l)
	var look func(s string)
	look = func(s string) {
		want, e := max(slices.Index(all, s), 0), api.OK
		if !slices.Contains(all, s) {
			e = api.ErrNone
		}
		if i, got := tree.Find(l, s); i != want || got != e {
			t.Fatalf("Find(%q): %d, %d, want %d, %d", s, i, got, want, e)
		}
		if len(s) < 7 {
			for _, c := range "/ab" {
				look(s + string(c))
			}
		}
	}
	look("")
	for _, s := range []string{"/A", "/a\x00", "\x00", "/a /b", " /a", "//a", "/a//b", "a/b", "/.", "/..", "/a/..", "/\xff", strings.Repeat("/", 1<<20), "/" + strings.Repeat("a", 1<<20), strings.Repeat("/a", 1<<20)} {
		if i, e := tree.Find(l, s); i != 0 || e != api.ErrNone {
			t.Errorf("Find of %d bytes: %d, %d", len(s), i, e)
		}
	}
	for _, l := range notTrees() {
		for _, s := range []string{"/", "", "/a"} {
			if i, e := tree.Find(l, s); i != 0 || e != api.ErrTree {
				t.Errorf("Find(%d nodes, %s): %d, %d", len(l), s, i, e)
			}
		}
	}
}

// P4.2: values of all kinds, and props that are not there.
func TestValue(t *testing.T) {
	l := with([]api.Prop{{Name: "p", Value: "\x00"}, {Name: "empty"}, {Name: "q", Value: strings.Repeat("\xff", 1024)}}, "a")
	l[1].Props = []api.Prop{{Name: "p", Value: "the kid's"}, {Name: "status", Value: "x"}}
	for _, x := range []struct {
		i          int
		name, want string
		e          api.Errno
	}{
		{0, "p", "\x00", api.OK},
		{0, "empty", "", api.OK},
		{0, "q", strings.Repeat("\xff", 1024), api.OK},
		{1, "p", "the kid's", api.OK},
		{1, "q", "", api.ErrNone},
		{0, "status", "", api.ErrNone},
		{0, "", "", api.ErrNone},
		{0, "P", "", api.ErrNone},
		{0, "p\x00", "", api.ErrNone},
		{0, strings.Repeat("p", 1<<16), "", api.ErrNone},
	} {
		if v, e := tree.Value(l, x.i, x.name); v != x.want || e != x.e {
			t.Errorf("Value(%d, %q): %q, %d, want %q, %d", x.i, x.name, v, e, x.want, x.e)
		}
	}
	for _, l := range trees() {
		for i, n := range l {
			for _, p := range n.Props {
				if v, e := tree.Value(l, i, p.Name); v != p.Value || e != api.OK {
					t.Fatalf("Value(%v, %d, %s): %q, %d", l, i, p.Name, v, e)
				}
			}
		}
	}
}

// step is what a walk tells once.
type step struct {
	path string
	i    int
}

// walked is what a walk tells, up to so many steps.
func walked(walk func(func(string, int) bool), most int) []step {
	var all []step
	for path, i := range walk {
		if len(all) == most {
			break
		}
		all = append(all, step{path, i})
	}
	return all
}

// P4.4: walks of trees, whole, again and left anywhere; of what is no tree nothing.
func TestWalk(t *testing.T) {
	for _, l := range trees() {
		var want []step
		for i, path := range paths(l) {
			want = append(want, step{path, i})
		}
		walk := tree.Walk(l)
		for _, most := range []int{math.MaxInt, 0, 1, 2, len(l) / 2, math.MaxInt} {
			if got := walked(walk, most); !slices.Equal(got, want[:min(most, len(want))]) {
				t.Fatalf("Walk(%v), %d steps: %v", l, most, got)
			}
		}
	}
	for _, l := range notTrees() {
		if got := walked(tree.Walk(l), math.MaxInt); len(got) != 0 {
			t.Errorf("Walk of %d nodes: %v", len(l), got)
		}
	}
}

// P4.4, R8: a walk within a walk of the same iterator; it tells what was there when it was made.
func TestWalkStays(t *testing.T) {
	l := example()
	walk := tree.Walk(l)
	want := walked(walk, math.MaxInt)
	for i := range l {
		l[i] = api.Node{Parent: 3, Name: "spoilt"}
	}
	rounds := 0
	for path, i := range walk {
		if want[rounds] != (step{path, i}) {
			t.Errorf("the outer round: %s, %d", path, i)
		}
		if got := walked(walk, math.MaxInt); !slices.Equal(got, want) {
			t.Errorf("the inner round: %v", got)
		}
		rounds++
	}
	if rounds != 7 || want[2] != (step{"/soc/uart@0", 2}) {
		t.Errorf("%d rounds: %v", rounds, want)
	}
	bad := []api.Node{{Parent: -1, Name: "a"}}
	walk = tree.Walk(bad)
	bad[0].Name = ""
	if got := walked(walk, math.MaxInt); len(got) != 0 {
		t.Errorf("a tree only later: %v", got)
	}
}
