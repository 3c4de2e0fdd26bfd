package overlay_test

import (
	"math"
	"math/rand/v2"
	"slices"
	"testing"

	"reveille/api"
	"reveille/overlay"
)

// at is a piece that brings a kid of that name to the node at a path.
func at(target, name string) api.Piece {
	return api.Piece{Target: target, Nodes: append(root(), api.Node{Parent: 0, Name: name})}
}

// stack is a stack over a tree, with some pieces, of which each one can be laid.
func stack(t *testing.T, l []api.Node, pieces ...api.Piece) *overlay.Stack {
	t.Helper()
	s, e := overlay.New(l)
	if s == nil || e != api.OK {
		t.Fatalf("New: %v, %d", s, e)
	}
	for i, p := range pieces {
		if n, e := s.Lay(p); n != i+1 || e != api.OK {
			t.Fatalf("Lay of the piece %d: %d, %d", i, n, e)
		}
	}
	return s
}

// stands asks for a stack's tree, base and lying pieces.
func stands(t *testing.T, what string, s *overlay.Stack, all, base []api.Node, lying ...int) {
	t.Helper()
	if got := s.Tree(); !same(got, all) {
		t.Errorf("%s: the tree is %v, want %v", what, got, all)
	}
	if got := s.Base(); !same(got, base) {
		t.Errorf("%s: the base is %v, want %v", what, got, base)
	}
	if got := s.Lying(); !slices.Equal(got, lying) {
		t.Errorf("%s: %v lie, want %v", what, got, lying)
	}
}

// isTaken asks what Take answers.
func isTaken(t *testing.T, s *overlay.Stack, n int, want api.Errno) {
	t.Helper()
	if e := s.Take(n); e != want {
		t.Errorf("Take(%d): %d, want %d", n, e, want)
	}
}

// isLaidOn asks what the stack's Lay answers.
func isLaidOn(t *testing.T, s *overlay.Stack, p api.Piece, want int, wantE api.Errno) {
	t.Helper()
	if n, e := s.Lay(p); n != want || e != wantE {
		t.Errorf("Lay(%v): %d, %d, want %d, %d", p, n, e, want, wantE)
	}
}

// P5.2: the chapter's examples.
func TestStackExamples(t *testing.T) {
	s := stack(t, example())
	stands(t, "new", s, example(), example())
	isLaidOn(t, s, cape(), 1, api.OK)
	stands(t, "with the cape", s, laidExample(), example(), 1)
	isLaidOn(t, s, api.Piece{Target: "/a/y", Nodes: root(prop("z", ""))}, 2, api.OK)
	both := laidExample()
	both[3].Props = []api.Prop{prop("z", "")}
	stands(t, "with both", s, both, example(), 1, 2)
	isTaken(t, s, 1, api.ErrTarget)
	stands(t, "refused", s, both, example(), 1, 2)
	isTaken(t, s, 2, api.OK)
	stands(t, "without the second one", s, laidExample(), example(), 1)
	isTaken(t, s, 1, api.OK)
	stands(t, "without both", s, example(), example())
	isLaidOn(t, s, cape(), 3, api.OK)
	isTaken(t, s, 1, api.ErrArg)
	stands(t, "the third one", s, laidExample(), example(), 3)
	full := stack(t, wide(511), api.Piece{Target: "/", Nodes: root(prop("p", ""))})
	isLaidOn(t, full, at("/", "more"), 0, api.ErrTree)
	want := wide(511)
	want[0].Props = []api.Prop{prop("p", "")}
	stands(t, "the 513th node", full, want, wide(511), 1)
}

// P5.2: a list that is no tree is no base.
func TestNewRefused(t *testing.T) {
	for _, l := range notTrees() {
		if s, e := overlay.New(l); s != nil || e != api.ErrTree {
			t.Errorf("New(%v): %v, %d", l, s, e)
		}
	}
}

// P5.2: what is refused takes no number and changes nothing.
func TestLayRefused(t *testing.T) {
	s := stack(t, example(), cape())
	for range 2 {
		isLaidOn(t, s, api.Piece{}, 0, api.ErrPiece)
		isLaidOn(t, s, api.Piece{Target: "/nobody"}, 0, api.ErrPiece)
		isLaidOn(t, s, at("/nobody", "x"), 0, api.ErrTarget)
		isLaidOn(t, s, api.Piece{Target: "/a", Nodes: chain(16)}, 0, api.ErrTree)
		stands(t, "refused", s, laidExample(), example(), 1)
	}
	isLaidOn(t, s, cape(), 2, api.OK)
	stands(t, "laid twice", s, laidExample(), example(), 1, 2)
}

// P5.2: no more than 16 pieces lie, however many were laid; the room is asked ahead of the piece.
func TestFull(t *testing.T) {
	s := stack(t, example())
	for i := range 16 {
		isLaidOn(t, s, cape(), i+1, api.OK)
	}
	if overlay.MaxPieces != 16 {
		t.Errorf("MaxPieces: %d", overlay.MaxPieces)
	}
	isLaidOn(t, s, cape(), 0, api.ErrFull)
	isLaidOn(t, s, api.Piece{}, 0, api.ErrFull)
	isTaken(t, s, 17, api.ErrArg)
	isTaken(t, s, 5, api.OK)
	isLaidOn(t, s, api.Piece{}, 0, api.ErrPiece)
	isLaidOn(t, s, cape(), 17, api.OK)
	isLaidOn(t, s, cape(), 0, api.ErrFull)
	isTaken(t, s, 17, api.OK)
	isTaken(t, s, 17, api.ErrArg)
	isLaidOn(t, s, cape(), 18, api.OK)
	stands(t, "full", s, laidExample(), example(), 1, 2, 3, 4, 6, 7, 8, 9, 10, 11, 12, 13, 14, 15, 16, 18)
}

// P5.2: numbers of which no piece lies.
func TestTakeNone(t *testing.T) {
	s := stack(t, example())
	for _, n := range []int{0, 1, -1, math.MaxInt, math.MinInt} {
		isTaken(t, s, n, api.ErrArg)
	}
	s = stack(t, example(), cape(), cape())
	for _, n := range []int{0, 3, -1, 17, math.MaxInt, math.MinInt} {
		isTaken(t, s, n, api.ErrArg)
	}
	isTaken(t, s, 1, api.OK)
	isTaken(t, s, 1, api.ErrArg)
	stands(t, "one was taken", s, laidExample(), example(), 2)
}

// P5.2: a piece is taken from amid others; what lay beneath it, and what it hid, comes up.
func TestTakeAmid(t *testing.T) {
	set := func(v string) api.Piece { return api.Piece{Target: "/", Nodes: root(prop("p", v))} }
	s := stack(t, root(prop("p", "0"), prop("q", "")), set("1"), api.Piece{Target: "/", Nodes: root(), Drop: []string{"p"}}, set("3"))
	base := s.Base()
	stands(t, "all", s, root(prop("q", ""), prop("p", "3")), base, 1, 2, 3)
	isTaken(t, s, 2, api.OK)
	stands(t, "the dropped one is there again", s, root(prop("p", "3"), prop("q", "")), base, 1, 3)
	isTaken(t, s, 3, api.OK)
	stands(t, "the lowest one alone", s, root(prop("p", "1"), prop("q", "")), base, 1)
	isTaken(t, s, 1, api.OK)
	stands(t, "none", s, base, base)
	s = stack(t, root(), at("/", "a"), at("/", "b"), at("/", "a"))
	isTaken(t, s, 1, api.OK)
	stands(t, "the kids come in the order of the pieces that lie", s, append(root(), api.Node{Parent: 0, Name: "b"}, api.Node{Parent: 0, Name: "a"}), root(), 2, 3)
}

// P5.2: Take answers of the first piece above that can't be laid, and leaves all as it was.
func TestTakeRefused(t *testing.T) {
	drop := api.Piece{Target: "/", Nodes: at("/", "a").Nodes, Drop: []string{"p0"}}
	add := api.Piece{Target: "/", Nodes: root(prop("q", ""))}
	less := api.Piece{Target: "/", Nodes: root(), Drop: []string{"p1"}}
	for _, c := range []struct {
		above []api.Piece
		want  api.Errno
	}{
		{[]api.Piece{add, less}, api.ErrTree}, // the one prop too many goes only when the next piece is laid
		{[]api.Piece{add, at("/a", "k")}, api.ErrTree},
		{[]api.Piece{at("/a", "k"), add}, api.ErrTarget},
		{[]api.Piece{less, add, at("/a", "k")}, api.ErrTarget},
		{[]api.Piece{less, add}, api.OK},
	} {
		s := stack(t, root(many(32)...), append([]api.Piece{drop}, c.above...)...)
		was, lying := s.Tree(), s.Lying()
		isTaken(t, s, 1, c.want)
		if c.want != api.OK {
			stands(t, "refused", s, was, root(many(32)...), lying...)
			isLaidOn(t, s, at("/", "more"), len(lying)+1, api.OK)
		}
		for n := range slices.Backward(append(lying, len(lying)+1)) {
			s.Take(n + 1)
		}
		stands(t, "all were taken", s, root(many(32)...), root(many(32)...))
	}
}

// known is a piece that lies, with its number.
type known struct {
	number int
	piece  api.Piece
}

// relaid is the base with pieces laid over it, by the chapter's words, or the error of the first one that can't be laid.
func relaid(base []api.Node, pieces []known) ([]api.Node, api.Errno) {
	for _, k := range pieces {
		next, e := wantLay(base, k.piece)
		if e != api.OK {
			return nil, e
		}
		base = next
	}
	return base, api.OK
}

// P5.2, P5.3: stacks that are laid on and taken from, held against the base with what lies; behind a Take of all there is the base.
func TestStackGrown(t *testing.T) {
	for seed := range uint64(100) {
		r := rand.New(rand.NewPCG(seed, 55))
		base := grown(r, 1+r.IntN(8))
		s := stack(t, base)
		var lying []known
		last := 0
		for range 30 {
			all, _ := relaid(base, lying)
			if r.IntN(5) < 3 {
				p := cut(r, all, 1+r.IntN(5))
				_, want := wantLay(all, p)
				if len(lying) == overlay.MaxPieces {
					want = api.ErrFull
				}
				if want == api.OK {
					last++
					lying = append(lying, known{last, p})
				}
				isLaidOn(t, s, p, map[bool]int{true: last}[want == api.OK], want)
			} else {
				lying = takeOne(t, s, base, lying, r.IntN(last+2))
			}
			grownStands(t, s, base, lying)
		}
		for len(lying) > 0 {
			lying = takeOne(t, s, base, lying, lying[r.IntN(len(lying))].number)
		}
		stands(t, "all were taken", s, base, base)
		if t.Failed() {
			t.Fatalf("seed %d", seed)
		}
	}
}

// takeOne asks what Take answers of a number, and answers what lies then.
func takeOne(t *testing.T, s *overlay.Stack, base []api.Node, lying []known, n int) []known {
	t.Helper()
	left := slices.DeleteFunc(slices.Clone(lying), func(k known) bool { return k.number == n })
	_, want := relaid(base, left)
	if len(left) == len(lying) {
		want = api.ErrArg
	}
	isTaken(t, s, n, want)
	if want != api.OK {
		return lying
	}
	return left
}

func grownStands(t *testing.T, s *overlay.Stack, base []api.Node, lying []known) {
	t.Helper()
	all, _ := relaid(base, lying)
	var numbers []int
	for _, k := range lying {
		numbers = append(numbers, k.number)
	}
	stands(t, "grown", s, all, base, numbers...)
}

// P5.3: the piece that was laid last is taken off, and there is what there was.
func TestLaidAndTaken(t *testing.T) {
	grownOnes(t, func(r *rand.Rand, l []api.Node, p api.Piece, laid []api.Node) {
		s := stack(t, l, p)
		if n, e := s.Lay(cut(r, laid, 4)); e == api.OK {
			isTaken(t, s, n, api.OK)
		}
		stands(t, "the second one was taken", s, laid, l, 1)
		isTaken(t, s, 1, api.OK)
		stands(t, "both were taken", s, l, l)
	})
}

// R1: a nil stack, and one that New did not make.
func TestNoStack(t *testing.T) {
	var s *overlay.Stack
	isLaidOn(t, s, cape(), 0, api.ErrNil)
	isLaidOn(t, s, api.Piece{}, 0, api.ErrNil)
	isTaken(t, s, 1, api.ErrNil)
	isTaken(t, s, -1, api.ErrNil)
	stands(t, "nil", s, nil, nil)
	empty := &overlay.Stack{}
	empty.Lay(cape())
	empty.Take(1)
	empty.Tree()
	empty.Base()
	empty.Lying()
}

// R2: stacks do not see one another.
func TestTwoStacks(t *testing.T) {
	a, b := stack(t, example(), cape()), stack(t, example())
	isLaidOn(t, b, at("/", "c"), 1, api.OK)
	isTaken(t, b, 1, api.OK)
	stands(t, "a", a, laidExample(), example(), 1)
	stands(t, "b", b, example(), example())
}
