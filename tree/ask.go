package tree

import (
	"reveille/api"
	"reveille/cells"
)

// The props, and the node, of which more is known here than their bytes.
const (
	handleProp = "phandle"
	statusProp = "status"
	compatProp = "compatible"
	aliasPath  = "/aliases"
)

// okay is what the status of a node says that is not turned off.
const okay = "okay"

// Value is a prop's value.
func Value(l []api.Node, i int, name string) (string, api.Errno) {
	if e := checkPlace(l, i); e != api.OK {
		return "", e
	}
	return valueOf(l[i], name)
}

// valueOf is the value of a node's prop; ErrNone, if it has none of that name.
func valueOf(node api.Node, name string) (string, api.Errno) {
	for _, p := range node.Props {
		if p.Name == name {
			return p.Value, api.OK
		}
	}
	return "", api.ErrNone
}

// HandleOf is the number by which a node is named.
func HandleOf(l []api.Node, i int) (uint32, api.Errno) {
	if e := checkPlace(l, i); e != api.OK {
		return 0, e
	}
	return handleOf(l[i])
}

// handleOf is a node's handle; ErrNone, if it has none.
func handleOf(node api.Node) (uint32, api.Errno) {
	v, e := valueOf(node, handleProp)
	if e != api.OK {
		return 0, e
	}
	h, e := cells.One(v)
	if e != api.OK || h == 0 {
		return 0, api.ErrNone
	}
	return h, api.OK
}

// Handle is the first node that a number names.
func Handle(l []api.Node, h uint32) (int, api.Errno) {
	if _, e := Check(l); e != api.OK {
		return 0, e
	}
	if h == 0 {
		return 0, api.ErrArg
	}
	for i, node := range l {
		if its, e := handleOf(node); e == api.OK && its == h {
			return i, api.OK
		}
	}
	return 0, api.ErrNone
}

// Alias is the node to which an alias leads.
func Alias(l []api.Node, name string) (int, api.Errno) {
	at, e := Find(l, aliasPath)
	if e != api.OK {
		return 0, e
	}
	v, e := valueOf(l[at], name)
	if e != api.OK {
		return 0, e
	}
	path, e := cells.Text(v)
	if e != api.OK {
		return 0, api.ErrNone
	}
	return Find(l, path)
}

// Enabled says whether a node is enabled.
func Enabled(l []api.Node, i int) (bool, api.Errno) {
	if e := checkPlace(l, i); e != api.OK {
		return false, e
	}
	return isEnabled(l, i), api.OK
}

// isEnabled says whether a tree's node is enabled, and all above it.
func isEnabled(l []api.Node, i int) bool {
	for ; i >= 0; i = l[i].Parent {
		v, e := valueOf(l[i], statusProp)
		if e != api.OK {
			continue
		}
		if s, e := cells.Text(v); e != api.OK || s != okay {
			return false
		}
	}
	return true
}

// Compat is what a node says that it is.
func Compat(l []api.Node, i int) ([]string, api.Errno) {
	if e := checkPlace(l, i); e != api.OK {
		return nil, e
	}
	v, e := valueOf(l[i], compatProp)
	if e != api.OK {
		return nil, api.OK
	}
	texts, _ := cells.Texts(v) // a prop that has no texts says nothing
	return texts, api.OK
}

// Plain says whether a node is a plain one.
func Plain(l []api.Node, i int) (bool, api.Errno) {
	if e := checkPlace(l, i); e != api.OK {
		return false, e
	}
	_, e := valueOf(l[i], compatProp)
	return e != api.OK && isEnabled(l, i), api.OK
}
