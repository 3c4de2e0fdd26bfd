package match_test

import (
	"slices"
	"strings"
	"testing"

	"reveille/api"
	"reveille/match"
	"reveille/roll"
)

// P14.1: the chapter's examples.
func TestFitExamples(t *testing.T) {
	for _, x := range []struct {
		texts []string
		want  match.Match
		e     api.Errno
	}{
		{[]string{"x"}, match.Match{Card: 0, Text: 0}, api.OK},
		{[]string{"q", "y", "x"}, match.Match{Card: 1, Text: 1}, api.OK},
		{[]string{"q"}, match.Match{}, api.ErrNone},
		{nil, match.Match{}, api.ErrNone},
		{[]string{}, match.Match{}, api.ErrNone},
		{[]string{"z", "z"}, match.Match{Card: 3, Text: 0}, api.OK},
		{[]string{"q", "z", "q", "z"}, match.Match{Card: 3, Text: 1}, api.OK},
		{[]string{"x", "y"}, match.Match{Card: 0, Text: 0}, api.OK},
		{[]string{"z", "x", "y"}, match.Match{Card: 3, Text: 0}, api.OK},
	} {
		isFit(t, chapterCards(), x.texts, x.want, x.e)
	}
}

// P14.1: the text stands ahead of the score, the score of the name, the name of the place; a level says nothing.
func TestFitOrder(t *testing.T) {
	early, late := knows("b", 0, "x"), knows("a", 0, "x")
	early.Level, late.Level = 0, 4
	for _, x := range []struct {
		cards []api.Card
		texts []string
		want  match.Match
	}{
		{[]api.Card{knows("a", 100, "y"), knows("b", -100, "x")}, []string{"x", "y"}, match.Match{Card: 1}},
		{[]api.Card{knows("a", 0, "x"), knows("b", 1, "y", "x")}, []string{"x"}, match.Match{Card: 1}},
		{[]api.Card{knows("a", -100, "x"), knows("b", 100, "x")}, []string{"x"}, match.Match{Card: 1}},
		{[]api.Card{knows("a", 0, "x"), knows("b", -1, "x")}, []string{"x"}, match.Match{Card: 0}},
		{[]api.Card{knows("b", 0, "x"), knows("a", 0, "y", "x")}, []string{"x"}, match.Match{Card: 1}},
		{[]api.Card{knows("ab", 0, "x"), knows("a", 0, "x")}, []string{"x"}, match.Match{Card: 1}},
		{[]api.Card{knows("a9", 0, "x"), knows("a10", 0, "x")}, []string{"x"}, match.Match{Card: 1}},
		{[]api.Card{knows("z", 0, "x"), knows("_", 0, "x"), knows("0", 0, "x"), knows("#", 0, "x")}, []string{"x"}, match.Match{Card: 3}},
		{[]api.Card{early, late}, []string{"x"}, match.Match{Card: 1}},
	} {
		isFit(t, x.cards, x.texts, x.want, api.OK)
	}
}

// P14.1: a text is known byte by byte, and whole.
func TestFitWhole(t *testing.T) {
	long := strings.Repeat("x", 63)
	cards := []api.Card{knows("a", 0, "acme,x", "\xff\xfe", long)}
	for _, known := range cards[0].Compat {
		isFit(t, cards, []string{known}, match.Match{}, api.OK)
	}
	unknown := []string{"", "acme", "acme,x ", " acme,x", "acme,X", "acme,x\x00", "acme,xx", "\xff", "\xfe\xff", "\ufffd", "\ufffd\ufffd", long[1:], long + "x", "a"}
	for _, text := range unknown {
		isFit(t, cards, []string{text}, match.Match{}, api.ErrNone)
	}
	isFit(t, cards, unknown, match.Match{}, api.ErrNone)
	isFit(t, cards, append(unknown, "acme,x"), match.Match{Text: len(unknown)}, api.OK)
	isFit(t, nil, []string{"x", ""}, match.Match{}, api.ErrNone)
}

// P14.1: all lists of three cards with few texts, in all orders of their names, of all short lists of texts.
func TestFitOfAll(t *testing.T) {
	var kinds []api.Card
	for _, texts := range [][]string{{"x"}, {"y"}, {"x", "y"}, {"y", "x"}} {
		kinds = append(kinds, knows("", 0, texts...), knows("", 1, texts...))
	}
	asked := shortTexts()
	for n := range len(kinds) * len(kinds) * len(kinds) {
		cards := []api.Card{kinds[n%8], kinds[n/8%8], kinds[n/64]}
		for _, names := range []string{"abc", "acb", "bac", "bca", "cab", "cba"} {
			for i := range cards {
				cards[i].Name = names[i : i+1]
			}
			for _, texts := range asked {
				isSlowFit(t, cards, texts)
			}
		}
	}
}

// shortTexts are all lists of at most three of few texts.
func shortTexts() [][]string {
	all := [][]string{nil}
	for at := 0; at < len(all); at++ {
		if len(all[at]) == 3 {
			break
		}
		for _, text := range []string{"x", "y", "q"} {
			all = append(all, append(slices.Clone(all[at]), text))
		}
	}
	return all
}

// P14.1: of the roll's cards: watch-clock knows a fixed-clock, too, with the greater score.
func TestFitOfRoll(t *testing.T) {
	for text, name := range map[string]string{
		"fixed-clock": "watch-clock", "fixed-rail": "buck", "simple-bus": "simple-bus", "acme,bridge": "hub", "acme,ntc": "thermistor", "acme,lora": "modem", "acme,i2c": "i2c", "acme,pll": "pll",
	} {
		m, e := match.Fit(roll.Cards(), []string{"acme,nobody", text})
		if got := roll.Cards()[m.Card].Name; got != name || m.Text != 1 || e != api.OK {
			t.Errorf("Fit(%q): %s %v %d, want %s", text, got, m, e, name)
		}
	}
}

// P14.1: the nodes of the board, each by itself and all.
func TestBoard(t *testing.T) {
	want := []string{"", "simple-bus 0", "i2c 1", "adc 0", "i2c 0", "simple-bus 0", "watch-clock 0", "spi 0", "modem 0", "", "", "", "", ""}
	all, e := match.All(roll.Cards(), board())
	if e != api.OK || len(all) != len(want) {
		t.Fatal("All:", all, e)
	}
	for i, m := range all {
		if named := cardAndText(roll.Cards(), m); named != want[i] {
			t.Errorf("%s: %q, want %q", pathOf(board(), i), named, want[i])
		}
	}
}

// cardAndText is a match told by its card's name and its text's place; nothing of none.
func cardAndText(cards []api.Card, m match.Match) string {
	if m == nobody {
		return ""
	}
	return cards[m.Card].Name + " " + string(rune('0'+m.Text))
}

// P14.1: One and All of cards and trees of many kinds, by the chapter's words; whether nodes are enabled is not asked.
func TestOneAndAll(t *testing.T) {
	turnedOff := board()
	turnedOff[0] = node(-1, "", off)
	for _, g := range append(pairs(), given{roll.Cards(), turnedOff}) {
		want := wantAll(g)
		if all, e := match.All(g.cards, g.tree); !slices.Equal(all, want) || e != api.OK {
			t.Fatalf("All(%v, %v): %v %d, want %v", g.cards, g.tree, all, e, want)
		}
		for i, m := range want {
			if m == nobody {
				isOne(t, g, i, match.Match{}, api.ErrNone)
			} else {
				isOne(t, g, i, m, api.OK)
			}
		}
	}
}

// P14.1: which values of compatible say something.
func TestValues(t *testing.T) {
	cards := []api.Card{knows("a", 0, "x", "y")}
	for value, want := range map[string]match.Match{
		"x\x00": {}, "q\x00y\x00": {Text: 1}, "\x00x\x00": {Text: 1}, "x\x00\x00": {}, "q\x00q\x00x\x00": {Text: 2},
		"x": nobody, "": nobody, "\x00": nobody, "x\x00y": nobody, "x \x00": nobody, "\x00\x00": nobody,
	} {
		g := given{cards, []api.Node{node(-1, "", is("q")), node(0, "n", "compatibl=x\x00", "compatible="+value, "compatible2=x\x00"), node(1, "beneath")}}
		all, e := match.All(g.cards, g.tree)
		if !slices.Equal(all, []match.Match{nobody, want, nobody}) || e != api.OK {
			t.Errorf("%q: %v %d, want %v", value, all, e, want)
		}
		if want == nobody {
			isOne(t, g, 1, match.Match{}, api.ErrNone)
		} else {
			isOne(t, g, 1, want, api.OK)
		}
	}
}

// P14.1, R4, R5: cards that may not be are told first, then what is no tree, then a place that no node has.
func TestErrors(t *testing.T) {
	for what, cards := range oddCards() {
		t.Log(what)
		isFit(t, cards, []string{"x"}, match.Match{}, api.ErrCard)
		isFit(t, cards, nil, match.Match{}, api.ErrCard)
		for _, tree := range append(notTrees(), board()) {
			refused(t, given{cards, tree}, api.ErrCard)
			for _, i := range append(oddPlaces(tree), 0) {
				isOne(t, given{cards, tree}, i, match.Match{}, api.ErrCard)
			}
		}
	}
	for _, cards := range [][]api.Card{nil, {}, roll.Cards(), manyCards(64)} {
		for _, tree := range notTrees() {
			refused(t, given{cards, tree}, api.ErrTree)
			for _, i := range append(oddPlaces(tree), 0) {
				isOne(t, given{cards, tree}, i, match.Match{}, api.ErrTree)
			}
		}
		for _, i := range oddPlaces(board()) {
			isOne(t, given{cards, board()}, i, match.Match{}, api.ErrArg)
		}
	}
}

// refused asks the calls on whole trees for an error.
func refused(t *testing.T, g given, want api.Errno) {
	t.Helper()
	if l, e := match.All(g.cards, g.tree); len(l) != 0 || e != want {
		t.Errorf("All: %v %d, want %d", l, e, want)
	}
	for what, ask := range asks() {
		if l, e := ask(g.cards, g.tree); len(l) != 0 || e != want {
			t.Errorf("%s: %v %d, want %d", what, l, e, want)
		}
	}
}

// asks are the calls that tell places.
func asks() map[string]func(cards []api.Card, t []api.Node) ([]int, api.Errno) {
	return map[string]func(cards []api.Card, t []api.Node) ([]int, api.Errno){"Rank": match.Rank, "Orphans": match.Orphans, "Idle": match.Idle}
}

// isFit asks which card fits, isSlowFit whether it is the one by the chapter's words, isOne which one fits a node.
func isFit(t *testing.T, cards []api.Card, texts []string, want match.Match, e api.Errno) {
	t.Helper()
	if m, got := match.Fit(cards, texts); m != want || got != e {
		t.Errorf("Fit(%v, %q): %v %d, want %v %d", cards, texts, m, got, want, e)
	}
}

func isSlowFit(t *testing.T, cards []api.Card, texts []string) {
	t.Helper()
	if want := wantFit(cards, texts); want == nobody {
		isFit(t, cards, texts, match.Match{}, api.ErrNone)
	} else {
		isFit(t, cards, texts, want, api.OK)
	}
}

func isOne(t *testing.T, g given, i int, want match.Match, e api.Errno) {
	t.Helper()
	if m, got := match.One(g.cards, g.tree, i); m != want || got != e {
		t.Errorf("One(%v, %v, %d): %v %d, want %v %d", g.cards, g.tree, i, m, got, want, e)
	}
}
