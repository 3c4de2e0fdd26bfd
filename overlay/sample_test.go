package overlay_test

import (
	"fmt"
	"math"
	"math/rand/v2"
	"regexp"
	"slices"
	"strings"

	"reveille/api"
)

func prop(name, value string) api.Prop { return api.Prop{Name: name, Value: value} }

// root is the list with the root alone, which has these props.
func root(props ...api.Prop) []api.Node { return []api.Node{{Parent: -1, Props: props}} }

// example is the tree T of the chapter's examples.
func example() []api.Node {
	return []api.Node{{Parent: -1}, {Parent: 0, Name: "a", Props: []api.Prop{prop("p", "1")}}, {Parent: 1, Name: "x"}, {Parent: 0, Name: "b"}}
}

// cape is the piece of the first example.
func cape() api.Piece {
	x := api.Node{Parent: 0, Name: "x", Props: []api.Prop{prop("r", "4")}}
	return api.Piece{Target: "/a", Nodes: append(root(prop("p", "2"), prop("q", "3")), x, api.Node{Parent: 0, Name: "y"})}
}

// laidExample is the tree T with the cape laid over it.
func laidExample() []api.Node {
	return []api.Node{
		{Parent: -1},
		{Parent: 0, Name: "a", Props: []api.Prop{prop("p", "2"), prop("q", "3")}},
		{Parent: 1, Name: "x", Props: []api.Prop{prop("r", "4")}},
		{Parent: 1, Name: "y"},
		{Parent: 0, Name: "b"},
	}
}

// wide is a root with n kids, chain a list of n nodes, each beneath the one ahead of it.
func wide(n int) []api.Node {
	l := root()
	for i := range n {
		l = append(l, api.Node{Parent: 0, Name: fmt.Sprint("k", i)})
	}
	return l
}

func chain(n int) []api.Node {
	l := root()
	for i := 1; i < n; i++ {
		l = append(l, api.Node{Parent: i - 1, Name: "c"})
	}
	return l
}

// many are n props, and names n names of them.
func many(n int) []api.Prop {
	var l []api.Prop
	for _, name := range names(n) {
		l = append(l, prop(name, "v"))
	}
	return l
}

func names(n int) []string {
	var l []string
	for i := range n {
		l = append(l, fmt.Sprint("p", i))
	}
	return l
}

// copied is a list in memory of its own.
func copied(l []api.Node) []api.Node {
	c := slices.Clone(l)
	for i := range c {
		c[i].Props = slices.Clone(c[i].Props)
	}
	return c
}

// same says whether two lists are the same, node by node.
func same(a, b []api.Node) bool {
	return slices.EqualFunc(a, b, func(x, y api.Node) bool {
		return x.Parent == y.Parent && x.Name == y.Name && slices.Equal(x.Props, y.Props)
	})
}

// notTrees are lists that are no trees, of several kinds.
func notTrees() [][]api.Node {
	return [][]api.Node{
		nil,
		{},
		{{Parent: 0}},
		{{Parent: -1, Name: "a"}},
		append(root(), root()...),
		append(root(), api.Node{Parent: 1, Name: "a"}),
		append(root(), api.Node{Parent: math.MaxInt, Name: "a"}),
		append(root(), api.Node{Parent: math.MinInt, Name: "a"}),
		append(root(), api.Node{Parent: 0}),
		append(root(), api.Node{Parent: 0, Name: "A"}),
		append(example(), api.Node{Parent: 0, Name: "a"}),
		append(example(), api.Node{Parent: 1, Name: "z"}),
		root(many(33)...),
		root(prop("p", "1"), prop("p", "2")),
		root(prop("", "1")),
		root(prop("p", strings.Repeat("v", 1025))),
		wide(512),
		chain(17),
	}
}

// notNames are texts that are no names.
func notNames() []string {
	return []string{"", "A", "a/b", "/", "a b", "a\x00", "é", "\xff", strings.Repeat("a", 32)}
}

var nameForm = regexp.MustCompile(`^[a-z0-9,._+@#?-]{1,31}$`)

// paths are the paths of a tree's nodes, each told by climbing up from it.
func paths(l []api.Node) []string {
	var all []string
	for i := range l {
		s := ""
		for k := i; k > 0; k = l[k].Parent {
			s = "/" + l[k].Name + s
		}
		if s == "" {
			s = "/"
		}
		all = append(all, s)
	}
	return all
}

// wantTree says whether nodes are a tree, rule by rule.
func wantTree(l []api.Node) bool {
	if len(l) < 1 || len(l) > 512 || l[0].Parent != -1 || l[0].Name != "" {
		return false
	}
	for i, n := range l[1:] {
		if n.Parent < 0 || n.Parent > i || !nameForm.MatchString(n.Name) {
			return false
		}
	}
	seen := map[string]int{}
	for i, path := range paths(l) {
		isAbove := i == 0
		for k := i - 1; k >= 0; k = l[k].Parent {
			isAbove = isAbove || k == l[i].Parent
		}
		seen[path]++
		if !isAbove || seen[path] > 1 || strings.Count(path, "/") > 15 || !wantNames(propNames(l[i].Props)) {
			return false
		}
		if slices.ContainsFunc(l[i].Props, func(p api.Prop) bool { return len(p.Value) > 1024 }) {
			return false
		}
	}
	return true
}

func propNames(l []api.Prop) []string {
	var all []string
	for _, p := range l {
		all = append(all, p.Name)
	}
	return all
}

// wantNames says whether texts are at most 32 names, none twice.
func wantNames(l []string) bool {
	for i, name := range l {
		if !nameForm.MatchString(name) || slices.Contains(l[:i], name) {
			return false
		}
	}
	return len(l) <= 32
}

// wantPiece says whether a piece may be.
func wantPiece(p api.Piece) bool {
	if !wantTree(p.Nodes) || !wantNames(p.Drop) {
		return false
	}
	return !slices.ContainsFunc(p.Nodes[0].Props, func(x api.Prop) bool { return slices.Contains(p.Drop, x.Name) })
}

// board is a tree by its paths: the names of each node's kids and its props, in their orders.
type board struct {
	kids  map[string][]string
	props map[string][]api.Prop
}

func kidPath(path, name string) string { return strings.TrimSuffix(path, "/") + "/" + name }

func boardOf(l []api.Node) board {
	b := board{map[string][]string{}, map[string][]api.Prop{}}
	all := paths(l)
	for i, n := range l {
		b.props[all[i]] = slices.Clone(n.Props)
		if i > 0 {
			b.kids[all[n.Parent]] = append(b.kids[all[n.Parent]], n.Name)
		}
	}
	return b
}

// lay lays a piece's node i over the node of that path, and what is beneath it over what is beneath that.
func (b board) lay(path string, piece []api.Node, i int) {
props:
	for _, p := range piece[i].Props {
		for k, there := range b.props[path] {
			if there.Name == p.Name {
				b.props[path][k].Value = p.Value
				continue props
			}
		}
		b.props[path] = append(b.props[path], p)
	}
	for k, n := range piece {
		if k == 0 || n.Parent != i {
			continue
		}
		if !slices.Contains(b.kids[path], n.Name) {
			b.kids[path] = append(b.kids[path], n.Name)
		}
		b.lay(kidPath(path, n.Name), piece, k)
	}
}

// nodes is the tree as a list in preorder.
func (b board) nodes() []api.Node {
	var all []api.Node
	var tell func(path, name string, parent int)
	tell = func(path, name string, parent int) {
		at := len(all)
		all = append(all, api.Node{Parent: parent, Name: name, Props: b.props[path]})
		for _, kid := range b.kids[path] {
			tell(kidPath(path, kid), kid, at)
		}
	}
	tell("/", "", -1)
	return all
}

// wantLay is what Lay must answer.
func wantLay(t []api.Node, p api.Piece) ([]api.Node, api.Errno) {
	if !wantTree(t) {
		return nil, api.ErrTree
	}
	if !wantPiece(p) {
		return nil, api.ErrPiece
	}
	if !slices.Contains(paths(t), p.Target) {
		return nil, api.ErrTarget
	}
	b := boardOf(t)
	var left []api.Prop
	for _, x := range b.props[p.Target] {
		if !slices.Contains(p.Drop, x.Name) {
			left = append(left, x)
		}
	}
	b.props[p.Target] = left
	b.lay(p.Target, p.Nodes, 0)
	if l := b.nodes(); wantTree(l) {
		return l, api.OK
	}
	return nil, api.ErrTree
}

// lists goes through all trees of at most n kids beneath the root, of these names.
func lists(n int, names []string, do func(l []api.Node)) {
	var grow func(l []api.Node)
	grow = func(l []api.Node) {
		if !wantTree(l) {
			return
		}
		do(l)
		for p := range l {
			for _, name := range names {
				if len(l) <= n {
					grow(append(slices.Clone(l), api.Node{Parent: p, Name: name}))
				}
			}
		}
	}
	grow(root())
}

// grown is a tree of n nodes that hangs on a random source alone; its names and props are few, so that many trees have the same.
func grown(r *rand.Rand, n int) []api.Node {
	props := func() []api.Prop {
		var l []api.Prop
		for _, name := range []string{"p", "q", "r", "s"} {
			if r.IntN(2) > 0 {
				l = slices.Insert(l, r.IntN(len(l)+1), prop(name, fmt.Sprint(r.IntN(5))))
			}
		}
		return l
	}
	all := root(props()...)
	depth := []int{0}
	for range 4 * n {
		if len(all) == n {
			break
		}
		depth = depth[:1+r.IntN(min(len(depth), 15))]
		up, name := depth[len(depth)-1], string("abcdef"[r.IntN(6)])
		if slices.ContainsFunc(all, func(x api.Node) bool { return x.Parent == up && x.Name == name }) {
			continue
		}
		depth = append(depth, len(all))
		all = append(all, api.Node{Parent: up, Name: name, Props: props()})
	}
	return all
}

// cut is a piece that hangs on a random source alone, and whose target is in most cases a node of the tree.
func cut(r *rand.Rand, t []api.Node, n int) api.Piece {
	p := api.Piece{Target: paths(t)[r.IntN(len(t))], Nodes: grown(r, n)}
	if r.IntN(8) == 0 {
		p.Target = []string{"", "/nobody", "a", "/a/", "//"}[r.IntN(5)]
	}
	for _, name := range []string{"s", "r", "q", "p"} {
		if r.IntN(3) == 0 && !slices.Contains(propNames(p.Nodes[0].Props), name) {
			p.Drop = append(p.Drop, name)
		}
	}
	return p
}
