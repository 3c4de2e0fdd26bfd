package match_test

import (
	"slices"
	"testing"

	"reveille/api"
	"reveille/match"
	"reveille/roll"
)

// named is a match by its card's name, which does not hang on the order of the cards.
type named struct {
	name string
	text int
}

// byName are the matches of a tree's nodes by their cards' names.
func byName(t *testing.T, g given) []named {
	t.Helper()
	all, e := match.All(g.cards, g.tree)
	if e != api.OK || len(all) != len(g.tree) {
		t.Fatalf("All(%v, %v): %v %d", g.cards, g.tree, all, e)
	}
	var l []named
	for _, m := range all {
		if m == nobody {
			l = append(l, named{})
		} else {
			l = append(l, named{g.cards[m.Card].Name, m.Text})
		}
	}
	return l
}

// places are what a call tells.
func places(t *testing.T, what string, g given) []int {
	t.Helper()
	l, e := asks()[what](g.cards, g.tree)
	if e != api.OK {
		t.Fatalf("%s(%v, %v): %d", what, g.cards, g.tree, e)
	}
	return l
}

// without are the cards but for the one at c.
func without(l []api.Card, c int) []api.Card { return slices.Delete(slices.Clone(l), c, c+1) }

// P14.4: let the cards stand in another order: the same cards fit by the same texts, and ranks and orphans stay; idle ones by name, too.
func TestWhateverTheOrder(t *testing.T) {
	idle := func(g given) []string {
		var names []string
		for _, c := range places(t, "Idle", g) {
			names = append(names, g.cards[c].Name)
		}
		slices.Sort(names)
		return names
	}
	for _, g := range pairs() {
		for seed := range uint64(8) {
			other := given{shuffled(g.cards, seed), g.tree}
			if a, b := byName(t, g), byName(t, other); !slices.Equal(a, b) {
				t.Errorf("All: %v, of the cards in another order %v", a, b)
			}
			for _, what := range []string{"Rank", "Orphans"} {
				if a, b := places(t, what, g), places(t, what, other); !slices.Equal(a, b) {
					t.Errorf("%s: %v, of the cards in another order %v", what, a, b)
				}
			}
			if a, b := idle(g), idle(other); !slices.Equal(a, b) {
				t.Errorf("Idle: %v, of the cards in another order %v", a, b)
			}
		}
	}
}

// P14.4: so also Fit.
func TestFitWhateverTheOrder(t *testing.T) {
	for seed := range uint64(60) {
		cards := grownCards(seed)
		for turn := range uint64(6) {
			other := shuffled(cards, turn)
			for _, texts := range append(shortTexts(), vocabulary(), []string{"nobody", "\xff"}) {
				m, e := match.Fit(cards, texts)
				o, f := match.Fit(other, texts)
				if e != f || m.Text != o.Text || e == api.OK && cards[m.Card].Name != other[o.Card].Name {
					t.Errorf("Fit(%v, %q): %v %d, in another order %v %d", cards, texts, m, e, o, f)
				}
			}
		}
	}
}

// P14.4: let a card be taken away: what another card fits stays. One that fits no node at all changes nothing.
func TestTakenAway(t *testing.T) {
	for _, g := range pairs() {
		ahead := byName(t, g)
		for c, gone := range g.cards {
			left := given{without(g.cards, c), g.tree}
			for i, m := range byName(t, left) {
				if ahead[i].name != gone.Name && m != ahead[i] {
					t.Errorf("without %s the node %d has %v, not %v: %v", gone.Name, i, m, ahead[i], g)
				}
				if m.name == gone.Name {
					t.Errorf("%s is gone, and fits", gone.Name)
				}
			}
		}
	}
}

// P14.4: let a card be put in that names none of a node's texts: what fits it stays, whatever the card's score.
func TestPutIn(t *testing.T) {
	strong := func(texts ...string) api.Card { return knows("#", 100, texts...) }
	for _, g := range pairs() {
		if len(g.cards) == api.MaxCards {
			continue
		}
		ahead := byName(t, g)
		for _, c := range []api.Card{strong("unheard"), strong("x"), strong("y", "fixed-clock"), strong(vocabulary()...)} {
			for at := range len(g.cards) + 1 {
				more := given{slices.Insert(slices.Clone(g.cards), at, c), g.tree}
				for i, m := range byName(t, more) {
					names := slices.ContainsFunc(textsOf(g.tree[i]), func(s string) bool { return slices.Contains(c.Compat, s) })
					if !names && m != ahead[i] {
						t.Errorf("with %v the node %d has %v, not %v", c, i, m, ahead[i])
					}
				}
			}
		}
	}
}

// P14.4: a card whose score is raised loses none of its nodes.
func TestRaised(t *testing.T) {
	for _, g := range pairs() {
		ahead := byName(t, g)
		for c := range g.cards {
			for _, by := range []int8{1, 2, 40} {
				more := given{slices.Clone(g.cards), g.tree}
				more.cards[c].Score += by
				for i, m := range byName(t, more) {
					if ahead[i].name == g.cards[c].Name && m != ahead[i] {
						t.Errorf("%s is raised by %d and loses the node %d to %v", g.cards[c].Name, by, i, m)
					}
				}
			}
		}
	}
}

// P14.5: each enabled node with a prop compatible stands in Rank or in Orphans, once, and no other one does.
func TestRankOrOrphan(t *testing.T) {
	for _, g := range pairs() {
		both := append(places(t, "Rank", g), places(t, "Orphans", g)...)
		slices.Sort(both)
		var want []int
		for i, n := range g.tree {
			if _, says := valueOf(n, "compatible"); says && isOn(g.tree, i) {
				want = append(want, i)
			}
		}
		if !slices.Equal(both, want) {
			t.Errorf("Rank and Orphans: %v, want %v: %v", both, want, g)
		}
	}
}

// P14.5: a card is idle just if no node of Rank has it; the levels of Rank don't fall.
func TestIdleAndLevels(t *testing.T) {
	for _, g := range pairs() {
		ranked, idle, level := places(t, "Rank", g), places(t, "Idle", g), uint8(0)
		busy := map[int]bool{}
		for _, i := range ranked {
			m, e := match.One(g.cards, g.tree, i)
			if e != api.OK || g.cards[m.Card].Level < level {
				t.Errorf("the node %d of %v: %v %d", i, ranked, m, e)
			}
			level, busy[m.Card] = g.cards[m.Card].Level, true
		}
		for c := range g.cards {
			if slices.Contains(idle, c) == busy[c] {
				t.Errorf("the card %d: idle %v, Rank %v", c, idle, ranked)
			}
		}
		if !slices.IsSorted(idle) || len(idle)+len(busy) != len(g.cards) {
			t.Errorf("Idle: %v of %d cards", idle, len(g.cards))
		}
	}
}

// The bounds hold: as many cards, nodes, props and depths as there may be.
func TestBounds(t *testing.T) {
	tree := wide(511)
	for i := range tree {
		for len(tree[i].Props) < api.MaxProps-1 {
			tree[i].Props = append(tree[i].Props, api.Prop{Name: "p" + string(rune('a'+len(tree[i].Props)%26)) + string(rune('a'+len(tree[i].Props)/26))})
		}
		tree[i].Props = append(tree[i].Props, api.Prop{Name: "z"})
	}
	cards := manyCards(63)
	cards = append(cards, knows("the-last-one", 0, "x"))
	all, e := match.All(cards, tree)
	if e != api.OK || len(all) != 512 || all[0] != nobody || all[1] != (match.Match{Card: 63}) || all[511] != (match.Match{Card: 63}) {
		t.Errorf("All: %d of %d: %v", e, len(all), all)
	}
	if l := places(t, "Rank", given{cards, tree}); len(l) != 511 {
		t.Error("Rank:", len(l))
	}
	deep := []api.Node{node(-1, "", is("x"))}
	for i := range api.MaxDepth - 1 {
		deep = append(deep, node(i, "c", is("x")))
	}
	isTold(t, "Rank", cards, deep, []int{0, 1, 2, 3, 4, 5, 6, 7, 8, 9, 10, 11, 12, 13, 14, 15})
	refused(t, given{cards, append(deep, node(15, "c"))}, api.ErrTree)
	refused(t, given{append(cards, knows("more", 0, "x")), deep}, api.ErrCard)
	if m, e := match.Fit(roll.Cards(), slices.Concat(slices.Repeat([]string{"nobody"}, 1<<16), []string{"acme,spi"})); m.Text != 1<<16 || e != api.OK {
		t.Errorf("Fit: %v %d", m, e)
	}
}
