package overlay_test

import (
	"slices"
	"testing"

	"reveille/api"
	"reveille/overlay"
)

// roomy is a copy of a list, and of its props, with spare room behind each end in which something stands.
func roomy(l []api.Node) []api.Node {
	var all []api.Node
	for _, n := range l {
		n.Props = append(append([]api.Prop(nil), n.Props...), prop("spare", "props"), api.Prop{})[:len(n.Props)]
		all = append(all, n)
	}
	return append(all, api.Node{Parent: 77, Name: "spare"}, api.Node{Parent: 78})[:len(l)]
}

// roomyPiece is a copy of a piece with such room.
func roomyPiece(p api.Piece) api.Piece {
	p.Nodes = roomy(p.Nodes)
	p.Drop = append(append([]string(nil), p.Drop...), "spare", "")[:len(p.Drop)]
	return p
}

// isRoomy says whether a roomy copy of a list is as it was, isRoomyPiece whether that of a piece is.
func isRoomy(room, l []api.Node) bool {
	spare := room[:len(l)+2]
	if !same(room, l) || !same(spare[len(l):], []api.Node{{Parent: 77, Name: "spare"}, {Parent: 78}}) {
		return false
	}
	for _, n := range room {
		if !slices.Equal(n.Props[len(n.Props):len(n.Props)+2], []api.Prop{prop("spare", "props"), {}}) {
			return false
		}
	}
	return true
}

func isRoomyPiece(room, p api.Piece) bool {
	drop := room.Drop[:len(p.Drop)+2]
	return room.Target == p.Target && isRoomy(room.Nodes, p.Nodes) && slices.Equal(drop, append(slices.Clone(p.Drop), "spare", ""))
}

// spoil writes over a list and its props, with the room behind their ends.
func spoil(l []api.Node) {
	for i := range l {
		spoilProps(l[i].Props)
	}
	l = l[:cap(l)]
	for i := range l {
		l[i] = api.Node{Parent: 99, Name: "spoilt"}
	}
}

func spoilProps(l []api.Prop) {
	l = l[:cap(l)]
	for i := range l {
		l[i] = prop("spoilt", "spoilt")
	}
}

// capes are pieces that drop, change and bring something.
func capes() []api.Piece {
	drop := cape()
	drop.Nodes[0].Props = nil
	drop.Drop = []string{"nobody", "p"}
	return []api.Piece{cape(), drop, at("/", "b"), {Target: "/", Nodes: wide(600)}, {Target: "/nobody", Nodes: root()}, {Target: "/", Nodes: root(), Drop: []string{"p", "p"}}}
}

// R3: no call changes what it is handed, with the room behind its end.
func TestArgumentsStay(t *testing.T) {
	for _, p := range capes() {
		room, part := roomy(example()), roomyPiece(p)
		overlay.Check(part)
		overlay.Lay(room, part)
		if s, _ := overlay.New(room); s != nil {
			s.Lay(part)
			s.Lay(part)
			s.Take(1)
		}
		if !isRoomy(room, example()) || !isRoomyPiece(part, p) {
			t.Errorf("an argument has changed: %v, %v", room, part)
		}
	}
}

// R3: what Lay hands out shares nothing with what was handed in, and no list of it with another.
func TestLaidIsNew(t *testing.T) {
	for _, p := range capes()[:3] {
		room, part := roomy(example()), roomyPiece(p)
		want, e := overlay.Lay(room, part)
		got, _ := overlay.Lay(room, part)
		spoil(got)
		if e != api.OK || !isRoomy(room, example()) || !isRoomyPiece(part, p) {
			t.Fatalf("an answer shares memory with an argument: %v, %v", room, part)
		}
		for i := range want {
			one, _ := overlay.Lay(room, part)
			spoilProps(one[i].Props)
			one[i].Props = want[i].Props
			if !same(one, want) {
				t.Errorf("the props of the node %d are shared: %v", i, one)
			}
		}
	}
}

// R3: a stack keeps nothing of what it was handed.
func TestStackKeepsNothing(t *testing.T) {
	base, pieces := example(), []api.Piece{at("/", "c"), cape(), capes()[1]}
	s := stack(t, base, pieces...)
	want := s.Tree()
	spoil(base)
	for _, p := range pieces {
		spoil(p.Nodes)
		for i := range p.Drop {
			p.Drop[i] = "spoilt"
		}
	}
	stands(t, "what was handed in is spoilt", s, want, example(), 1, 2, 3)
	isTaken(t, s, 1, api.OK)
	bare := laidExample()
	bare[1].Props = bare[1].Props[1:]
	stands(t, "those above were laid anew", s, bare, example(), 2, 3)
	isTaken(t, s, 3, api.OK)
	stands(t, "the cape alone", s, laidExample(), example(), 2)
	isTaken(t, s, 2, api.OK)
	stands(t, "none lies", s, example(), example())
}

// R3: no later answer shows what is written to an earlier one.
func TestStackAnswersAreNew(t *testing.T) {
	s := stack(t, example(), cape(), cape())
	for range 2 {
		spoil(s.Tree())
		spoil(s.Base())
		for i := range s.Lying() {
			s.Lying()[i] = 99
		}
		stands(t, "answers are spoilt", s, laidExample(), example(), 1, 2)
	}
	isTaken(t, s, 1, api.OK)
	isTaken(t, s, 2, api.OK)
	spoil(s.Tree())
	stands(t, "none lies", s, example(), example())
	spoil(s.Base())
	isLaidOn(t, s, cape(), 3, api.OK)
	stands(t, "laid again", s, laidExample(), example(), 3)
}
