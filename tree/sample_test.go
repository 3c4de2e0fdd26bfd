package tree_test

import (
	"fmt"
	"math"
	"math/rand/v2"
	"slices"
	"strings"

	"reveille/api"
)

// example is the tree T of the chapter's examples.
func example() []api.Node {
	return []api.Node{
		{Parent: -1},
		{Parent: 0, Name: "soc", Props: []api.Prop{{Name: "phandle", Value: "\x00\x00\x00\x07"}}},
		{Parent: 1, Name: "uart@0", Props: []api.Prop{{Name: "compatible", Value: "a\x00b\x00"}, {Name: "status", Value: "okay\x00"}}},
		{Parent: 2, Name: "x"},
		{Parent: 0, Name: "aliases", Props: []api.Prop{{Name: "s", Value: "/soc/uart@0\x00"}}},
		{Parent: 0, Name: "off", Props: []api.Prop{{Name: "status", Value: "disabled\x00"}}},
		{Parent: 5, Name: "y"},
	}
}

// root is the list with the root alone.
func root() []api.Node { return []api.Node{{Parent: -1}} }

// with is the root with these props, with kids of these names.
func with(props []api.Prop, names ...string) []api.Node {
	l := []api.Node{{Parent: -1, Props: props}}
	for _, name := range names {
		l = append(l, api.Node{Parent: 0, Name: name})
	}
	return l
}

// wide is a root with n kids, chain a list of n nodes, each beneath the one ahead of it.
func wide(n int) []api.Node {
	l := root()
	for i := range n {
		l = append(l, api.Node{Parent: 0, Name: fmt.Sprint("k", i)})
	}
	return l
}

func chain(n int) []api.Node {
	l := root()
	for i := 1; i < n; i++ {
		l = append(l, api.Node{Parent: i - 1, Name: "c"})
	}
	return l
}

// many are n props with values of so many bytes.
func many(n, size int) []api.Prop {
	var l []api.Prop
	for i := range n {
		l = append(l, api.Prop{Name: fmt.Sprint("p", i), Value: strings.Repeat("v", size)})
	}
	return l
}

// piece is the list with a first node of that name in the place of its root.
func piece(name string, l []api.Node) []api.Node {
	l = copied(l)
	l[0].Name = name
	return l
}

// copied is a list in memory of its own.
func copied(l []api.Node) []api.Node {
	c := slices.Clone(l)
	for i := range c {
		c[i].Props = slices.Clone(c[i].Props)
	}
	return c
}

// same says whether two lists are the same, node by node.
func same(a, b []api.Node) bool {
	if len(a) != len(b) {
		return false
	}
	for i := range a {
		if a[i].Parent != b[i].Parent || a[i].Name != b[i].Name || !slices.Equal(a[i].Props, b[i].Props) {
			return false
		}
	}
	return true
}

// notTrees are lists that are no trees, of several kinds.
func notTrees() [][]api.Node {
	return [][]api.Node{
		nil,
		{},
		{{Parent: 0}},
		{{Parent: -1, Name: "a"}},
		{{Parent: -1}, {Parent: -1}},
		{{Parent: -1}, {Parent: 1, Name: "a"}},
		{{Parent: -1}, {Parent: math.MaxInt, Name: "a"}},
		{{Parent: -1}, {Parent: math.MinInt, Name: "a"}},
		{{Parent: -1}, {Parent: 0}},
		{{Parent: -1}, {Parent: 2, Name: "a"}, {Parent: 1, Name: "b"}},
		append(example(), api.Node{Parent: 2, Name: "z"}),
		append(example(), api.Node{Parent: 0, Name: "soc"}),
		with(many(33, 0)),
		with(many(1, 1025)),
		wide(512),
		chain(17),
	}
}

// places are some places that no node of a list has.
func places(l []api.Node) []int {
	return []int{-1, -2, len(l), len(l) + 1, math.MaxInt, math.MinInt}
}

// entry is a node by its path.
type entry struct {
	path  string
	props []api.Prop
}

// paths are the paths of a tree's nodes, each told by climbing up from it.
func paths(l []api.Node) []string {
	var all []string
	for i := range l {
		s := ""
		for k := i; k > 0; k = l[k].Parent {
			s = "/" + l[k].Name + s
		}
		if s == "" {
			s = "/"
		}
		all = append(all, s)
	}
	return all
}

// entries are a tree's nodes by their paths, in order.
func entries(l []api.Node) []entry {
	var all []entry
	for i, path := range paths(l) {
		all = append(all, entry{path, l[i].Props})
	}
	return all
}

// built is the list of these entries; the first one has no parent.
func built(l []entry) []api.Node {
	var all []api.Node
	at := map[string]int{}
	for i, x := range l {
		cut := strings.LastIndex(x.path, "/")
		parent, ok := at[x.path[:max(cut, 1)]]
		if i == 0 || !ok {
			parent = -1
		}
		all = append(all, api.Node{Parent: parent, Name: x.path[cut+1:], Props: x.props})
		at[x.path] = i
	}
	return all
}

// isBeneath says whether the node of one path is beneath that of the other.
func isBeneath(path, other string) bool {
	return path != other && strings.HasPrefix(path, strings.TrimSuffix(other, "/")+"/")
}

// lists goes through all lists of at most n nodes whose parents and names are of these.
func lists(n int, parents []int, names []string, do func(l []api.Node)) {
	var grow func(l []api.Node)
	grow = func(l []api.Node) {
		do(l)
		if len(l) == n {
			return
		}
		for _, p := range parents {
			for _, name := range names {
				grow(append(slices.Clone(l), api.Node{Parent: p, Name: name}))
			}
		}
	}
	grow(nil)
}

// grown is a tree of n nodes that hangs on a seed alone.
func grown(seed uint64, n int) []api.Node {
	r := rand.New(rand.NewPCG(seed, 4))
	pick := func(l ...string) string { return l[r.IntN(len(l))] }
	props := func() []api.Prop {
		var l []api.Prop
		for _, name := range []string{"status", "compatible", "phandle", "z", "a"} {
			if r.IntN(4) > 0 {
				continue
			}
			value := pick("", "\x00", "okay\x00", "okay", "off\x00", "a\x00b\x00", "\x00\x00\x00\x00", "\x00\x00\x00"+string([]byte{byte(r.IntN(9))}))
			l = slices.Insert(l, r.IntN(len(l)+1), api.Prop{Name: name, Value: value})
		}
		return l
	}
	all := []api.Node{{Parent: -1, Props: props()}}
	depth := []int{0}
	for len(all) < n {
		depth = depth[:1+r.IntN(min(len(depth), 15))]
		name := pick("a", "b", "a@1", "a+", "a0", "aa", "-", "z") + pick("", "", fmt.Sprint(len(all)))
		up := depth[len(depth)-1]
		if slices.ContainsFunc(all, func(x api.Node) bool { return x.Parent == up && x.Name == name }) {
			continue
		}
		depth = append(depth, len(all))
		all = append(all, api.Node{Parent: up, Name: name, Props: props()})
	}
	if r.IntN(2) > 0 && !slices.ContainsFunc(all, func(x api.Node) bool { return x.Name == "aliases" }) {
		p := paths(all)
		aliases := []api.Prop{{Name: "s", Value: pick(p...) + "\x00"}, {Name: "t", Value: pick(p...) + "\x00"}, {Name: "u", Value: "/nobody\x00"}}
		all = append(all, api.Node{Parent: 0, Name: "aliases", Props: aliases})
	}
	return all
}

// trees are all small trees of a few names, and grown ones.
func trees() [][]api.Node {
	all := [][]api.Node{example(), wide(40), chain(16), with(many(32, 1))}
	lists(4, []int{0, 1, 2, 3}, []string{"a", "b"}, func(l []api.Node) {
		if l := append(root(), l...); wantTree(l) {
			all = append(all, l)
		}
	})
	for seed := range uint64(60) {
		all = append(all, grown(seed, 1+int(seed)/2))
	}
	return append(all, grown(99, 300))
}
