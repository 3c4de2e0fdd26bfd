package blob

import (
	"slices"
	"strings"

	"reveille/api"
)

// kid is a node by its parent's place and its name, of which a tree has one at most.
type kid struct {
	parent int
	name   string
}

// isTree says whether a list of nodes is a tree.
func isTree(l []api.Node) bool {
	if len(l) < 1 || len(l) > api.MaxNodes || l[0].Parent != -1 || l[0].Name != "" || !areProps(l[0].Props) {
		return false
	}
	seen := map[kid]struct{}{}
	// In preorder a node's parent is the node ahead of it, or one above that.
	path := []int{0}
	for i := 1; i < len(l); i++ {
		up := slices.Index(path, l[i].Parent)
		if up < 0 || !isName(l[i].Name) || !areProps(l[i].Props) {
			return false
		}
		path = append(path[:up+1], i)
		if len(path) > api.MaxDepth {
			return false
		}
		k := kid{l[i].Parent, l[i].Name}
		if _, ok := seen[k]; ok {
			return false
		}
		seen[k] = struct{}{}
	}
	return true
}

// areProps says whether a node of a tree may have these props.
func areProps(l []api.Prop) bool {
	if len(l) > api.MaxProps {
		return false
	}
	for i, p := range l {
		if !isName(p.Name) || len(p.Value) > api.MaxValue {
			return false
		}
		if slices.ContainsFunc(l[:i], func(ahead api.Prop) bool { return ahead.Name == p.Name }) {
			return false
		}
	}
	return true
}

// isName says whether a text is a name.
func isName(s string) bool {
	if len(s) < 1 || len(s) > api.MaxName {
		return false
	}
	for i := range len(s) {
		c := s[i]
		if !(c >= 'a' && c <= 'z' || c >= '0' && c <= '9' || strings.IndexByte(",._+-@#?", c) >= 0) {
			return false
		}
	}
	return true
}
