package overlay

import (
	"slices"

	"reveille/api"
	"reveille/tree"
)

// Stack is a tree with pieces over it.
type Stack struct {
	base  []api.Node
	lying []layer // from the lowest up
	last  int     // the number that was given out last
}

// layer is a piece that lies, and what came out when it was laid over all beneath it.
type layer struct {
	number int
	piece  api.Piece
	tree   []api.Node
}

// New makes a stack of a tree.
func New(t []api.Node) (*Stack, api.Errno) {
	if _, e := tree.Check(t); e != api.OK {
		return nil, e
	}
	return &Stack{base: copied(t)}, api.OK
}

// Lay lays a piece over all that lies: its number.
func (s *Stack) Lay(p api.Piece) (int, api.Errno) {
	if s == nil {
		return 0, api.ErrNil
	}
	if len(s.lying) >= MaxPieces {
		return 0, api.ErrFull
	}
	all, e := Lay(s.over(s.lying), p)
	if e != api.OK {
		return 0, e
	}
	s.last++
	s.lying = append(s.lying, layer{s.last, kept(p), all})
	return s.last, api.OK
}

// over is the tree that came out when the uppermost of the lowest layers was laid; the base, if there is none.
func (s *Stack) over(lowest []layer) []api.Node {
	if len(lowest) == 0 {
		return s.base
	}
	return lowest[len(lowest)-1].tree
}

// kept is a piece in memory of its own.
func kept(p api.Piece) api.Piece {
	return api.Piece{Target: p.Target, Nodes: copied(p.Nodes), Drop: append([]string(nil), p.Drop...)}
}

// Take takes a piece off, wherever it lies.
func (s *Stack) Take(n int) api.Errno {
	if s == nil {
		return api.ErrNil
	}
	at := slices.IndexFunc(s.lying, func(l layer) bool { return l.number == n })
	if at < 0 {
		return api.ErrArg
	}
	// Those above are laid anew beside the stack, which stays as it is if one of them is refused.
	lying := slices.Clone(s.lying[:at])
	for _, l := range s.lying[at+1:] {
		all, e := Lay(s.over(lying), l.piece)
		if e != api.OK {
			return e
		}
		l.tree = all
		lying = append(lying, l)
	}
	s.lying = lying
	return api.OK
}

// Tree is the tree as it stands.
func (s *Stack) Tree() []api.Node {
	if s == nil {
		return nil
	}
	return copied(s.over(s.lying))
}

// Base is the tree without pieces.
func (s *Stack) Base() []api.Node {
	if s == nil {
		return nil
	}
	return copied(s.base)
}

// Lying are the numbers of the pieces that lie, from the lowest up.
func (s *Stack) Lying() []int {
	if s == nil {
		return nil
	}
	var numbers []int
	for _, l := range s.lying {
		numbers = append(numbers, l.number)
	}
	return numbers
}
