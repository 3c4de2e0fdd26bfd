package match_test

import (
	"fmt"
	"math"
	"math/rand/v2"
	"slices"
	"strings"

	"reveille/api"
	"reveille/match"
	"reveille/roll"
)

// chapterCards are those of the chapter's examples.
func chapterCards() []api.Card {
	return []api.Card{knows("a", 0, "x", "y"), knows("b", 5, "y"), knows("c", 5, "y"), knows("d", -5, "z")}
}

// knows is a card with that name and score that names these texts.
func knows(name string, score int8, texts ...string) api.Card {
	return api.Card{Name: name, Family: "bus", Level: 1, Compat: texts, Score: score, Entry: -1}
}

// levelled is a card of that name and level that names its own name alone.
func levelled(name string, level uint8) api.Card {
	return api.Card{Name: name, Family: "bus", Level: level, Compat: []string{name}, Entry: -1}
}

// manyCards are n cards, each of which knows a text of its own.
func manyCards(n int) []api.Card {
	var l []api.Card
	for i := range n {
		l = append(l, knows(fmt.Sprint("m", i), 0, fmt.Sprint("t", i)))
	}
	return l
}

// grownCards are some cards out of a seed, whose texts are few, so that many a text is named by several.
func grownCards(seed uint64) []api.Card {
	r := rand.New(rand.NewPCG(seed, 14))
	names := r.Perm(20)
	var l []api.Card
	for i := range r.IntN(12) {
		texts := vocabulary()
		r.Shuffle(len(texts), func(a, b int) { texts[a], texts[b] = texts[b], texts[a] })
		c := knows(fmt.Sprint("c", names[i]), int8(r.IntN(4)-2), texts[:1+r.IntN(4)]...)
		c.Level = uint8(r.IntN(5))
		l = append(l, c)
	}
	return l
}

// vocabulary are the texts of grown cards and trees.
func vocabulary() []string {
	return []string{"x", "y", "z", "xx", "acme,x", "X", "x ", "\xff"}
}

// oddCards are lists of cards that may not be, by what is wrong.
func oddCards() map[string][]api.Card {
	odd := map[string][]api.Card{
		"one name twice": {knows("a", 0, "x"), knows("b", 0, "x"), knows("a", 1, "y")},
		"the same twice": {knows("a", 0, "x"), knows("a", 0, "x")},
		"65 cards":       manyCards(65),
		"nothing":        {{}},
		"no texts":       {knows("a", 0)},
		"a text twice":   {knows("a", 0, "x", "x")},
		"an empty text":  {knows("a", 0, "x", "")},
		"a score of 101": {knows("a", 101, "x")},
		"the level 5":    {levelled("x", 5)},
		"the last one":   append(chapterCards(), knows("E", 0, "x")),
	}
	for what, turn := range map[string]func(c *api.Card){
		"the entry 48": func(c *api.Card) { c.Entry = 48 },
		"the entry -2": func(c *api.Card) { c.Entry = -2 },
		"no family":    func(c *api.Card) { c.Family = "" },
		"odd family":   func(c *api.Card) { c.Family = "Bus" },
		"odd quirk":    func(c *api.Card) { c.Quirk = "Half" },
	} {
		c := knows("a", 0, "x")
		turn(&c)
		odd[what] = []api.Card{c}
	}
	return odd
}

// node is a node with these props, each as its name and, behind a =, its value.
func node(parent int, name string, props ...string) api.Node {
	n := api.Node{Parent: parent, Name: name}
	for _, p := range props {
		prop, value, _ := strings.Cut(p, "=")
		n.Props = append(n.Props, api.Prop{Name: prop, Value: value})
	}
	return n
}

// is is the prop compatible that says these texts.
func is(texts ...string) string {
	return "compatible=" + strings.Join(texts, "\x00") + "\x00"
}

// off is the prop status of a node that is not enabled.
const off = "status=disabled\x00"

// board is a tree of devices of the roll's cards, some of them unknown, some turned off.
func board() []api.Node {
	return []api.Node{
		node(-1, "", is("acme,board")),
		node(0, "soc", is("simple-bus")),
		node(1, "uart@1", is("acme,nobody", "acme,i2c"), "status=okay\x00"),
		node(2, "adc", "model=x\x00", is("acme,adc", "acme,adc-16")),
		node(1, "uart@0", is("acme,i2c")),
		node(0, "soc-b", is("simple-bus", "acme,bridge")),
		node(0, "osc", is("fixed-clock")),
		node(0, "dark", off, is("acme,spi")),
		node(7, "within", is("acme,lora")),
		node(7, "nobody", is("acme,nobody")),
		node(0, "plain"),
		node(10, "z", is("acme,nobody")),
		node(0, "bare", "compatible=acme,spi"),
		node(0, "empty", "compatible"),
	}
}

// notTrees are lists that are no trees.
func notTrees() [][]api.Node {
	return [][]api.Node{
		nil,
		{},
		{node(0, "")},
		{node(-1, "a")},
		{node(-1, ""), node(-1, "")},
		{node(-1, ""), node(0, "")},
		{node(-1, ""), node(1, "a")},
		{node(-1, ""), node(math.MaxInt, "a")},
		{node(-1, ""), node(math.MinInt, "a")},
		{node(-1, ""), node(0, "A")},
		append(board(), node(0, "soc")),
		append(board(), node(1, "late")),
		append(board(), node(0, "twice", is("x"), is("x"))),
		append(board(), node(0, "long", "p="+strings.Repeat("v", 1025))),
		wide(512),
	}
}

// wide is a root with n kids that say x.
func wide(n int) []api.Node {
	l := []api.Node{node(-1, "")}
	for i := range n {
		l = append(l, node(0, fmt.Sprint("k", i), is("x")))
	}
	return l
}

// oddPlaces are places that no node of a tree has.
func oddPlaces(t []api.Node) []int {
	return []int{-1, -2, len(t), len(t) + 1, 1 << 32, math.MaxInt, math.MinInt}
}

// grownTree is a tree of n nodes out of a seed. Its names are such that paths don't stand in the order of the tree.
func grownTree(seed uint64, n int) []api.Node {
	r := rand.New(rand.NewPCG(seed, 41))
	pick := func(l ...string) string { return l[r.IntN(len(l))] }
	props := func() []string {
		var l []string
		if r.IntN(4) > 0 {
			texts := append(vocabulary(), "nobody", "", "roll")
			r.Shuffle(len(texts), func(a, b int) { texts[a], texts[b] = texts[b], texts[a] })
			l = append(l, pick(is(texts[:1]...), is(texts[:2]...), is(texts[:3]...), is("x", "x"), "compatible=x", "compatible", "compatible=\x00"))
		}
		if r.IntN(3) == 0 {
			l = append(l, pick("status=okay\x00", "status=okay\x00", off, "status=okay", "status", "other=okay\x00"))
		}
		return l
	}
	all, way := []api.Node{node(-1, "", props()...)}, []int{0}
	for len(all) < n {
		way = way[:1+r.IntN(min(len(way), 15))]
		name := pick("a", "b", "a-b", "a@1", "a+", "a0", "-", "z") + pick("", "", fmt.Sprint(len(all)))
		up := way[len(way)-1]
		if slices.ContainsFunc(all, func(x api.Node) bool { return x.Parent == up && x.Name == name }) {
			continue
		}
		way = append(way, len(all))
		all = append(all, node(up, name, props()...))
	}
	return all
}

// given is a list of cards and a tree.
type given struct {
	cards []api.Card
	tree  []api.Node
}

// pairs are cards with trees, of several kinds.
func pairs() []given {
	all := []given{
		{roll.Cards(), board()}, {nil, board()}, {chapterCards(), board()}, {roll.Cards(), []api.Node{node(-1, "")}}, {nil, []api.Node{node(-1, "", is("x"))}},
		{manyCards(64), wide(511)}, {chapterCards(), wide(30)},
	}
	for seed := range uint64(150) {
		all = append(all, given{grownCards(seed), grownTree(seed, 1+int(seed)/4)})
	}
	return all
}

// shuffled are the cards in another order.
func shuffled(l []api.Card, seed uint64) []api.Card {
	l = slices.Clone(l)
	rand.New(rand.NewPCG(seed, 3)).Shuffle(len(l), func(a, b int) { l[a], l[b] = l[b], l[a] })
	return l
}

// nobody is what All tells of a node that no card fits.
var nobody = match.Match{Card: -1}

// wantFit is the card that fits by the chapter's words: it names the first text that any names, and no other one that does is ahead of it.
func wantFit(cards []api.Card, texts []string) match.Match {
	for i, text := range texts {
		for c, one := range cards {
			ahead := func(other api.Card) bool {
				return slices.Contains(other.Compat, text) && (other.Score > one.Score || other.Score == one.Score && other.Name < one.Name)
			}
			if slices.Contains(one.Compat, text) && !slices.ContainsFunc(cards, ahead) {
				return match.Match{Card: c, Text: i}
			}
		}
	}
	return nobody
}

// valueOf is the value of a node's prop, and whether it has that.
func valueOf(n api.Node, name string) (string, bool) {
	i := slices.IndexFunc(n.Props, func(p api.Prop) bool { return p.Name == name })
	if i < 0 {
		return "", false
	}
	return n.Props[i].Value, true
}

// textsOf are a node's texts.
func textsOf(n api.Node) []string {
	v, _ := valueOf(n, "compatible")
	says, ended := strings.CutSuffix(v, "\x00")
	if !ended {
		return nil
	}
	return strings.Split(says, "\x00")
}

// isOn says whether a node is enabled, and all above it.
func isOn(t []api.Node, i int) bool {
	for ; i >= 0; i = t[i].Parent {
		if v, has := valueOf(t[i], "status"); has && v != "okay\x00" {
			return false
		}
	}
	return true
}

// pathOf is a node's path, told by climbing up from it.
func pathOf(t []api.Node, i int) string {
	path := ""
	for ; i > 0; i = t[i].Parent {
		path = "/" + t[i].Name + path
	}
	if path == "" {
		return "/"
	}
	return path
}

// wantAll are the matches of all nodes.
func wantAll(g given) []match.Match {
	var l []match.Match
	for _, n := range g.tree {
		l = append(l, wantFit(g.cards, textsOf(n)))
	}
	return l
}

// wantRank are the nodes by rank, picked one after the other.
func wantRank(g given) []int {
	all := wantAll(g)
	var left, ranked []int
	for i := range g.tree {
		if isOn(g.tree, i) && all[i] != nobody {
			left = append(left, i)
		}
	}
	for len(left) > 0 {
		least := 0
		for k, i := range left {
			a, b := g.cards[all[i].Card].Level, g.cards[all[left[least]].Card].Level
			if a < b || a == b && pathOf(g.tree, i) < pathOf(g.tree, left[least]) {
				least = k
			}
		}
		ranked = append(ranked, left[least])
		left = slices.Delete(left, least, least+1)
	}
	return ranked
}

// wantOrphans are the nodes that say what they are and that nobody knows.
func wantOrphans(g given) []int {
	var l []int
	for i, n := range g.tree {
		_, says := valueOf(n, "compatible")
		if says && isOn(g.tree, i) && wantFit(g.cards, textsOf(n)) == nobody {
			l = append(l, i)
		}
	}
	return l
}

// wantIdle are the cards that fit no enabled node.
func wantIdle(g given) []int {
	var l []int
	for c := range g.cards {
		fits := func(i int) bool { return isOn(g.tree, i) && wantFit(g.cards, textsOf(g.tree[i])).Card == c }
		places := make([]int, len(g.tree))
		for i := range places {
			places[i] = i
		}
		if !slices.ContainsFunc(places, fits) {
			l = append(l, c)
		}
	}
	return l
}
