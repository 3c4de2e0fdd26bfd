package match

import (
	"cmp"
	"slices"
	"strings"

	"reveille/api"
	"reveille/tree"
)

// Rank is the enabled nodes that are matched, in their order.
func Rank(cards []api.Card, t []api.Node) ([]int, api.Errno) {
	if e := check(cards, t); e != api.OK {
		return nil, e
	}
	all, paths := matches(cards, t), pathsOf(t)
	ranked := enabled(t, func(i int) bool { return all[i].Card != nobody })
	byLevel := func(a, b int) int { return cmp.Compare(cards[all[a].Card].Level, cards[all[b].Card].Level) }
	byPath := func(a, b int) int { return strings.Compare(paths[a], paths[b]) }
	slices.SortFunc(ranked, then(byLevel, byPath))
	return ranked, api.OK
}

// then is the order of the first in which those of one place stand in the order of the second.
func then(first, second func(a, b int) int) func(a, b int) int {
	return func(a, b int) int {
		if c := first(a, b); c != 0 {
			return c
		}
		return second(a, b)
	}
}

// Orphans are the enabled nodes that say what they are, and that nobody knows.
func Orphans(cards []api.Card, t []api.Node) ([]int, api.Errno) {
	if e := check(cards, t); e != api.OK {
		return nil, e
	}
	all := matches(cards, t)
	return enabled(t, func(i int) bool {
		// An enabled node that is not plain has a prop compatible, whatever that says.
		plain, _ := tree.Plain(alone(t[i]), 0)
		return !plain && all[i].Card == nobody
	}), api.OK
}

// Idle are the cards that no enabled node has.
func Idle(cards []api.Card, t []api.Node) ([]int, api.Errno) {
	if e := check(cards, t); e != api.OK {
		return nil, e
	}
	all := matches(cards, t)
	nodes := make([]int, len(cards))
	for _, i := range enabled(t, func(i int) bool { return all[i].Card != nobody }) {
		nodes[all[i].Card]++
	}
	var idle []int
	for c, n := range nodes {
		if n == 0 {
			idle = append(idle, c)
		}
	}
	return idle, api.OK
}

// enabled are the places of a tree's enabled nodes of which holds what is asked.
func enabled(t []api.Node, holds func(i int) bool) []int {
	on := make([]bool, len(t))
	var l []int
	for i, node := range t {
		on[i], _ = tree.Enabled(alone(node), 0)
		if i > 0 {
			on[i] = on[i] && on[node.Parent]
		}
		if on[i] && holds(i) {
			l = append(l, i)
		}
	}
	return l
}

// pathsOf are the paths of a tree's nodes.
func pathsOf(t []api.Node) []string {
	var paths []string
	for path := range tree.Walk(t) {
		paths = append(paths, path)
	}
	return paths
}
