package blob

import (
	"strings"

	"reveille/api"
	"reveille/cells"
)

// Decode is the tree that bytes are. A tree has one blob, so it is enough to tell again what was read: whatever else could be read so is refused by that.
func Decode(s string) (tree []api.Node, e api.Errno) {
	defer func() {
		if recover() != nil {
			tree, e = nil, api.ErrForm
		}
	}()
	tree = readTree(s)
	if again, refused := Encode(tree); refused != api.OK || again != s {
		return nil, api.ErrForm
	}
	return tree, api.OK
}

// readTree is the tree whose blob s is, if it is one; of other bytes it is some list of nodes, or it gives up. It lays no more nodes, props and bytes than a tree may have.
func readTree(s string) []api.Node {
	r := &reader{left: s}
	// What else the head says follows from the tree, and is not needed to read it.
	r.take(3 * cellBytes)
	size := r.size(len(s))
	r.take(4 * cellBytes)
	body := r.take(size)
	return readNodes(&reader{left: body}, r.left)
}

// readNodes are the nodes of a structure, whose props' names stand in the strings.
func readNodes(r *reader, names string) []api.Node {
	var tree []api.Node
	var read func(parent, depth int)
	// read reads a node with all beneath it; the cell with which it begins was taken.
	read = func(parent, depth int) {
		if depth > api.MaxDepth || len(tree) == api.MaxNodes {
			giveUp()
		}
		i := len(tree)
		tree = append(tree, api.Node{Parent: parent, Name: r.name()})
		word := r.cell()
		for ; word == propBegins; word = r.cell() {
			if len(tree[i].Props) == api.MaxProps {
				giveUp()
			}
			tree[i].Props = append(tree[i].Props, r.prop(names))
		}
		for ; word == nodeBegins; word = r.cell() {
			read(i, depth+1)
		}
		if word != nodeEnds {
			giveUp()
		}
	}
	if r.cell() != nodeBegins {
		giveUp()
	}
	read(-1, 1)
	return tree
}

// reader takes bytes from the front, and gives up where they are not as they must be.
type reader struct {
	left string
}

// giveUp ends the reading; Decode catches it.
func giveUp() { panic(api.ErrForm) }

// take is the next n bytes.
func (r *reader) take(n int) string {
	if n > len(r.left) {
		giveUp()
	}
	s := r.left[:n]
	r.left = r.left[n:]
	return s
}

// filled is the next n bytes; what fills them up is passed over.
func (r *reader) filled(n int) string {
	return r.take((n + cellBytes - 1) / cellBytes * cellBytes)[:n]
}

// cell is the next cell.
func (r *reader) cell() uint32 {
	n, _ := cells.One(r.take(cellBytes)) // four bytes are always a cell
	return n
}

// size is the next cell, if it is at most so great.
func (r *reader) size(most int) int {
	n := r.cell()
	if uint64(n) > uint64(most) {
		giveUp()
	}
	return int(n)
}

// name is a node's name, which is filled.
func (r *reader) name() string {
	name := textAt(r.left)
	r.filled(len(name) + 1)
	return name
}

// prop is a prop, whose name stands in the strings.
func (r *reader) prop(names string) api.Prop {
	size := r.size(api.MaxValue)
	place := r.size(len(names))
	return api.Prop{Name: textAt(names[place:]), Value: r.filled(size)}
}

// textAt is the text at the front of s, if it is no longer than a name.
func textAt(s string) string {
	end := strings.IndexByte(s[:min(len(s), api.MaxName+1)], 0)
	if end < 0 {
		giveUp()
	}
	return s[:end]
}
