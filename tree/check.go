package tree

import (
	"slices"

	"reveille/api"
	"reveille/words"
)

// kid is a node by its parent's place and its name, of which a tree has one at most.
type kid struct {
	parent int
	name   string
}

// Check says whether nodes are a tree, and where they are none.
func Check(l []api.Node) (int, api.Errno) {
	return check(l, func(name string) bool { return name == "" })
}

// checkPiece says whether nodes are a piece.
func checkPiece(l []api.Node) api.Errno {
	_, e := check(l, isName)
	return e
}

// check says whether nodes are a tree but for the name of the first one, of which isFirst is asked, and where they are none. Each beginning of a tree is a tree, so a node is wrong where it can't stand behind those ahead of it.
func check(l []api.Node, isFirst func(name string) bool) (int, api.Errno) {
	if len(l) == 0 || l[0].Parent != -1 || !isFirst(l[0].Name) || !areProps(l[0].Props) {
		return 0, api.ErrTree
	}
	seen := map[kid]struct{}{}
	// In preorder a node's parent is the node ahead of it, or one above that.
	path := []int{0}
	for i := 1; i < len(l); i++ {
		k := kid{l[i].Parent, l[i].Name}
		up := slices.Index(path, k.parent)
		if i == api.MaxNodes || up < 0 || !isName(k.name) || !areProps(l[i].Props) {
			return i, api.ErrTree
		}
		path = append(path[:up+1], i)
		if _, twice := seen[k]; twice || len(path) > api.MaxDepth {
			return i, api.ErrTree
		}
		seen[k] = struct{}{}
	}
	return 0, api.OK
}

// areProps says whether a node of a tree may have these props.
func areProps(l []api.Prop) bool {
	if len(l) > api.MaxProps {
		return false
	}
	for i, p := range l {
		if !isName(p.Name) || len(p.Value) > api.MaxValue {
			return false
		}
		if slices.ContainsFunc(l[:i], func(ahead api.Prop) bool { return ahead.Name == p.Name }) {
			return false
		}
	}
	return true
}

func isName(s string) bool { return words.Name(s) == api.OK }

// checkPlace says whether nodes are a tree, and i the place of one of them.
func checkPlace(l []api.Node, i int) api.Errno {
	if _, e := Check(l); e != api.OK {
		return e
	}
	if i < 0 || i >= len(l) {
		return api.ErrArg
	}
	return api.OK
}
