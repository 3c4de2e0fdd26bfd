package match_test

import (
	"slices"
	"testing"

	"reveille/api"
	"reveille/match"
	"reveille/roll"
)

// P14.2: the board: of the level 0 /osc, of the level 1 /soc, /soc-b (which is below /soc/uart@0 and /soc/uart@1), the uarts, of the level 2 the adc.
func TestRankOfBoard(t *testing.T) {
	isTold(t, "Rank", roll.Cards(), board(), []int{6, 1, 5, 4, 2, 3})
	isTold(t, "Orphans", roll.Cards(), board(), []int{0, 11, 12, 13})
	idle, _ := match.Idle(roll.Cards(), board())
	var names []string
	for c, one := range roll.Cards() {
		if !slices.Contains(idle, c) {
			names = append(names, one.Name)
		}
	}
	if !slices.Equal(names, []string{"watch-clock", "simple-bus", "i2c", "adc"}) || len(idle) != 18 {
		t.Errorf("all but %v are idle: %v", names, idle)
	}
}

// P14.2: levels stand ahead of paths, and paths are in order as texts, whatever the order of the tree; the root is a node as any other.
func TestRank(t *testing.T) {
	var cards []api.Card
	for level, name := range []string{"early", "bus", "core", "device", "late"} {
		cards = append(cards, levelled(name, uint8(level)))
	}
	tree := []api.Node{
		node(-1, "", is("core")),
		node(0, "b", is("core")), node(1, "x", is("early")),
		node(0, "a", is("core")), node(3, "x", is("core")), node(3, "y", is("late")),
		node(0, "a-", is("core")), node(0, "a0", is("core")), node(0, "a-x", is("device")), node(0, "z", is("bus")), node(0, "9", is("core")), node(0, "zz", is("late")), node(0, "plain"), node(12, "c", is("early")),
	}
	isTold(t, "Rank", cards, tree, []int{2, 13, 9, 0, 10, 3, 6, 4, 7, 1, 8, 5, 11})
	isTold(t, "Orphans", cards, tree, nil)
	isTold(t, "Idle", cards, tree, nil)
}

// P14.2: a node that is turned off, and each beneath it, is in none, and keeps no card busy.
func TestTurnedOff(t *testing.T) {
	cards := []api.Card{knows("a", 0, "x"), knows("b", 0, "y")}
	for status, on := range map[string]bool{
		"okay\x00": true, "okay": false, "": false, "\x00": false, "ok\x00": false, "okay\x00\x00": false, "okay\x00okay\x00": false, "disabled\x00": false, "Okay\x00": false,
	} {
		for at := range 4 {
			tree := []api.Node{node(-1, ""), node(0, "m", is("x")), node(1, "n", is("y")), node(2, "o", is("q")), node(0, "p", is("x"))}
			tree[at].Props = append(tree[at].Props, api.Prop{Name: "status", Value: status})
			rank, orphans, idle := [][]int{nil, {4}, {1, 4}, {1, 2, 4}}[at], []int(nil), [][]int{{0, 1}, {1}, {1}, nil}[at]
			if on {
				rank, orphans, idle = []int{1, 2, 4}, []int{3}, nil
			}
			isTold(t, "Rank", cards, tree, rank)
			isTold(t, "Orphans", cards, tree, orphans)
			isTold(t, "Idle", cards, tree, idle)
		}
	}
}

// P14.2: one with a prop compatible that names nothing is an orphan; one without it is none.
func TestOrphans(t *testing.T) {
	tree := []api.Node{
		node(-1, "", "compatible"), node(0, "b", "compatible=x"), node(0, "a", "compatible=\x00"), node(0, "c", is("x")), node(0, "d", "compatibl=q\x00"), node(0, "e", is("q", "x")), node(0, "f", is("q", "q")),
	}
	isTold(t, "Orphans", []api.Card{knows("a", 0, "x")}, tree, []int{0, 1, 2, 6})
	isTold(t, "Orphans", nil, tree, []int{0, 1, 2, 3, 5, 6})
	isTold(t, "Rank", nil, tree, nil)
}

// P14.2: a card is idle if another one fits each node that it names, and not if it fits one of several.
func TestIdle(t *testing.T) {
	cards := []api.Card{knows("a", 0, "x"), knows("b", 1, "x", "y"), knows("c", 0, "y", "z"), knows("d", 0, "q")}
	isTold(t, "Idle", cards, []api.Node{node(-1, ""), node(0, "m", is("x")), node(0, "n", is("y"))}, []int{0, 2, 3})
	isTold(t, "Idle", cards, []api.Node{node(-1, "", is("z")), node(0, "m", is("x", "q")), node(0, "n", is("z"))}, []int{0, 3})
	isTold(t, "Idle", cards, []api.Node{node(-1, "")}, []int{0, 1, 2, 3})
	isTold(t, "Idle", nil, board(), nil)
	var ahead []int
	for c := range 63 {
		ahead = append(ahead, c)
	}
	isTold(t, "Idle", manyCards(64), []api.Node{node(-1, "", is("t63", "t0"))}, ahead)
}

// P14.2: of cards and trees of many kinds, by the chapter's words.
func TestPlaces(t *testing.T) {
	for _, g := range pairs() {
		isTold(t, "Rank", g.cards, g.tree, wantRank(g))
		isTold(t, "Orphans", g.cards, g.tree, wantOrphans(g))
		isTold(t, "Idle", g.cards, g.tree, wantIdle(g))
	}
}

// isTold asks one of the calls that tell places.
func isTold(t *testing.T, what string, cards []api.Card, tree []api.Node, want []int) {
	t.Helper()
	if l, e := asks()[what](cards, tree); !slices.Equal(l, want) || e != api.OK {
		t.Errorf("%s(%v, %v): %v %d, want %v", what, cards, tree, l, e, want)
	}
}
