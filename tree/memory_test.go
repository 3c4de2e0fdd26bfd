package tree_test

import (
	"testing"

	"reveille/api"
	"reveille/tree"
)

// roomy is a copy of a list, and of its props, with spare room behind each end in which something stands.
func roomy(l []api.Node) []api.Node {
	var all []api.Node
	for _, n := range l {
		n.Props = append(append([]api.Prop(nil), n.Props...), api.Prop{Name: "spare", Value: "props"}, api.Prop{})[:len(n.Props)]
		all = append(all, n)
	}
	return append(all, api.Node{Parent: 77, Name: "spare"}, api.Node{Parent: 78})[:len(l)]
}

// isRoomy says whether a roomy copy of a list is as it was.
func isRoomy(room, l []api.Node) bool {
	spare := room[:len(l)+2]
	if !same(room, l) || !same(spare[len(l):], []api.Node{{Parent: 77, Name: "spare"}, {Parent: 78}}) {
		return false
	}
	for _, n := range room {
		if p := n.Props[:len(n.Props)+2]; p[len(n.Props)] != (api.Prop{Name: "spare", Value: "props"}) || p[len(n.Props)+1] != (api.Prop{}) {
			return false
		}
	}
	return true
}

// spoil writes over a list and its props, with the room behind their ends.
func spoil(l []api.Node) {
	for i := range l {
		props := l[i].Props[:cap(l[i].Props)]
		for k := range props {
			props[k] = api.Prop{Name: "spoilt", Value: "spoilt"}
		}
	}
	l = l[:cap(l)]
	for i := range l {
		l[i] = api.Node{Parent: 99, Name: "spoilt"}
	}
}

// R3: no call changes what it is handed, with the room behind its end.
func TestArgumentsStay(t *testing.T) {
	for _, l := range trees()[:40] {
		room, part := roomy(l), roomy(piece("new", example()))
		for i := range l {
			for _, a := range asks() {
				a.call(room, i)
			}
			tree.Graft(room, i, part)
			tree.Graft(part, i, room)
		}
		tree.Check(room)
		tree.Find(room, "/a")
		tree.Handle(room, 1)
		tree.Alias(room, "s")
		tree.Sorted(room)
		tree.Same(room, part)
		for range tree.Walk(room) {
		}
		if !isRoomy(room, l) || !isRoomy(part, piece("new", example())) {
			t.Fatalf("an argument has changed: %v, %v", room, part)
		}
	}
}

// R3: what is handed out shares nothing with what was handed in, and no list of it with another.
func TestAnswersAreNew(t *testing.T) {
	l := with(many(2, 1), "a", "b")
	l[1].Props, l[2].Props = many(3, 1), many(1, 1)
	room, part := roomy(l), roomy(piece("new", l))
	answers := func() [][]api.Node {
		rest, cut, _ := tree.Cut(room, 1)
		grafted, _ := tree.Graft(room, 1, part)
		sorted, _ := tree.Sorted(room)
		return [][]api.Node{rest, cut, grafted, sorted}
	}
	want := answers()
	for i := range want {
		all := answers()
		spoil(all[i])
		for k := range all {
			if k != i && !same(all[k], want[k]) {
				t.Errorf("the answer %d shares memory with %d", k, i)
			}
		}
		if !isRoomy(room, l) || !isRoomy(part, piece("new", l)) {
			t.Fatalf("the answer %d shares memory with an argument", i)
		}
		for k := range want[i] {
			one := answers()[i]
			spoilt := one[k].Props[:cap(one[k].Props)]
			for j := range spoilt {
				spoilt[j] = api.Prop{Name: "spoilt"}
			}
			one[k].Props = want[i][k].Props
			if !same(one, want[i]) {
				t.Errorf("props of the node %d of the answer %d are shared", k, i)
			}
		}
	}
}

// R3: places and texts are new with each call.
func TestListsAreNew(t *testing.T) {
	l := example()
	kids, _ := tree.Kids(l, 0)
	says, _ := tree.Compat(l, 2)
	kids[0], says[0] = 99, "spoilt"
	if again, e := tree.Kids(l, 0); e != api.OK || again[0] != 1 {
		t.Errorf("Kids: %d, %d", again, e)
	}
	if again, e := tree.Compat(l, 2); e != api.OK || again[0] != "a" {
		t.Errorf("Compat: %q, %d", again, e)
	}
}
