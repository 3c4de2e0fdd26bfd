package tree

import (
	"slices"
	"strings"

	"reveille/api"
)

// Cut parts a tree at a node.
func Cut(l []api.Node, i int) (rest, piece []api.Node, e api.Errno) {
	if e := checkPlace(l, i); e != api.OK {
		return nil, nil, e
	}
	if i == 0 {
		return nil, nil, api.ErrArg
	}
	end := endOf(l, i)
	rest = slices.Concat(moved(l[:i], 0, 0), moved(l[end:], end, i-end))
	piece = moved(l[i:end], i, -i)
	piece[0].Parent = -1
	return rest, piece, api.OK
}

// Graft puts a piece beneath a node, behind its kids.
func Graft(l []api.Node, at int, piece []api.Node) ([]api.Node, api.Errno) {
	if e := checkPlace(l, at); e != api.OK {
		return nil, e
	}
	if e := checkPiece(piece); e != api.OK {
		return nil, e
	}
	end := endOf(l, at)
	all := slices.Concat(moved(l[:end], 0, 0), moved(piece, 0, end), moved(l[end:], end, len(piece)))
	all[end].Parent = at
	if _, e := Check(all); e != api.OK {
		return nil, e
	}
	return all, api.OK
}

// moved is a copy of nodes, whose parents that stood at the place from, or behind it, now stand so many places further.
func moved(l []api.Node, from, by int) []api.Node {
	all := make([]api.Node, 0, len(l))
	for _, node := range l {
		if node.Parent >= from {
			node.Parent += by
		}
		node.Props = copied(node.Props)
		all = append(all, node)
	}
	return all
}

// copied is a list of props in memory of its own.
func copied(l []api.Prop) []api.Prop { return append([]api.Prop(nil), l...) }

// Sorted is a tree with its kids and props in order.
func Sorted(l []api.Node) ([]api.Node, api.Errno) {
	if _, e := Check(l); e != api.OK {
		return nil, e
	}
	all := make([]api.Node, 0, len(l))
	var lay func(i, parent int)
	// lay puts a node, with all beneath it, behind those that were laid.
	lay = func(i, parent int) {
		at := len(all)
		all = append(all, api.Node{Parent: parent, Name: l[i].Name, Props: sortedProps(l[i].Props)})
		kids := kidsOf(l, i)
		slices.SortFunc(kids, func(a, b int) int { return strings.Compare(l[a].Name, l[b].Name) })
		for _, k := range kids {
			lay(k, at)
		}
	}
	lay(0, -1)
	return all, api.OK
}

// sortedProps are props by rising names, in memory of their own.
func sortedProps(l []api.Prop) []api.Prop {
	sorted := copied(l)
	slices.SortFunc(sorted, func(a, b api.Prop) int { return strings.Compare(a.Name, b.Name) })
	return sorted
}

// Same says whether two lists of nodes are the same.
func Same(a, b []api.Node) bool {
	return slices.EqualFunc(a, b, func(x, y api.Node) bool {
		return x.Parent == y.Parent && x.Name == y.Name && slices.Equal(x.Props, y.Props)
	})
}
