package card_test

import (
	"fmt"
	"reflect"
	"strconv"
	"strings"
	"testing"

	"reveille/api"
	"reveille/card"
)

// uart is the chapter's card.
func uart() api.Card {
	return api.Card{Name: "uart", Family: "bus", Level: 1, Compat: []string{"a"}, Score: 5, Entry: -1}
}

// with is that card with something changed.
func with(turn func(c *api.Card)) api.Card {
	c := uart()
	turn(&c)
	return c
}

// named is that card by another name.
func named(name string) api.Card { return with(func(c *api.Card) { c.Name = name }) }

// compat is that card with these texts in Compat.
func compat(l ...string) api.Card { return with(func(c *api.Card) { c.Compat = l }) }

// many are n cards, each with a name of its own that begins so.
func many(name string, n int) []api.Card {
	var all []api.Card
	for i := range n {
		all = append(all, named(name+strconv.Itoa(i)))
	}
	return all
}

// texts are n texts, no two the same.
func texts(n int) []string {
	var all []string
	for i := range n {
		all = append(all, "t"+strconv.Itoa(i))
	}
	return all
}

// full is a card of which each field is at a bound.
func full() api.Card {
	l := texts(card.MaxCompat - 1)
	return api.Card{
		Name:   strings.Repeat("z", api.MaxName),
		Family: strings.Repeat("9", api.MaxName),
		Level:  card.MaxLevel,
		Compat: append(l, strings.Repeat("\xff", card.MaxText)),
		Score:  card.MaxScore,
		Quirk:  strings.Repeat("?", api.MaxName),
		Entry:  card.MaxEntry,
	}
}

// goodCards are cards that may be, oddCards such that may not, by what they are.
func goodCards() map[string]api.Card {
	return map[string]api.Card{
		"the chapter's":      uart(),
		"all at the bounds":  full(),
		"the least":          {Name: "?", Family: "#", Compat: []string{"\x01"}, Score: -card.MaxScore, Entry: -1},
		"Quirk as Name":      with(func(c *api.Card) { c.Quirk = c.Name }),
		"any bytes":          compat("A b/\n", "\xc3\x28", "é", "A b/", "a"),
		"one goes on":        compat("ab", "a", "abc"),
		"eight texts":        compat(texts(8)...),
		"a text of 63":       compat(strings.Repeat("x", 63)),
		"Entry 0":            with(func(c *api.Card) { c.Entry = 0 }),
		"Entry 47":           with(func(c *api.Card) { c.Entry = 47 }),
		"Score 100":          with(func(c *api.Card) { c.Score = 100 }),
		"Score -100":         with(func(c *api.Card) { c.Score = -100 }),
		"Level 4":            with(func(c *api.Card) { c.Level = 4 }),
		"a Name of 31 bytes": named(strings.Repeat("n", 31)),
	}
}

func oddCards() map[string]api.Card {
	all := map[string]api.Card{
		"nothing":            {},
		"Level 5":            with(func(c *api.Card) { c.Level = 5 }),
		"Level 255":          with(func(c *api.Card) { c.Level = 255 }),
		"no texts":           compat(),
		"nine texts":         compat(texts(9)...),
		"a text twice":       compat("a", "a"),
		"first as last":      compat("a", "b", "c", "a"),
		"last two the same":  compat("a", "b", "b"),
		"an empty text":      compat(""),
		"an empty text last": compat("a", ""),
		"64 bytes":           compat(strings.Repeat("x", 64)),
		"64 bytes last":      compat("a", strings.Repeat("x", 64)),
		"00 alone":           compat("\x00"),
		"00 ahead":           compat("\x00a"),
		"00 within":          compat("a\x00b"),
		"00 behind":          compat("b", "a\x00"),
		"Score 101":          with(func(c *api.Card) { c.Score = 101 }),
		"Score 127":          with(func(c *api.Card) { c.Score = 127 }),
		"Score -101":         with(func(c *api.Card) { c.Score = -101 }),
		"Score -128":         with(func(c *api.Card) { c.Score = -128 }),
		"Entry 48":           with(func(c *api.Card) { c.Entry = 48 }),
		"Entry 32767":        with(func(c *api.Card) { c.Entry = 32767 }),
		"Entry -2":           with(func(c *api.Card) { c.Entry = -2 }),
		"Entry -32768":       with(func(c *api.Card) { c.Entry = -32768 }),
		"no Name":            named(""),
		"no Family":          with(func(c *api.Card) { c.Family = "" }),
	}
	for _, s := range noNames() {
		all["Name "+s] = named(s)
		all["Family "+s] = with(func(c *api.Card) { c.Family = s })
		all["Quirk "+s] = with(func(c *api.Card) { c.Quirk = s })
	}
	return all
}

// noNames are texts, not empty, that are no names.
func noNames() []string {
	return []string{strings.Repeat("a", 32), strings.Repeat("a", 1<<16), "A", "a b", "a/b", "é", "a\x00", "\xff", "a:", "uArt", "~"}
}

// same says whether two lists of cards are the same; an empty list is nil or empty.
func same(a, b []api.Card) bool {
	if len(a) != len(b) {
		return false
	}
	for i := range a {
		if !reflect.DeepEqual(a[i], b[i]) {
			return false
		}
	}
	return true
}

// isEntered enters a card and asks what is answered, isMarked notes who begins and asks.
func isEntered(t *testing.T, r *card.Registry, c api.Card, want api.Errno) {
	t.Helper()
	if e := r.Enter(c); e != want {
		t.Errorf("Enter(%.40q): %d, want %d", c.Name, e, want)
	}
}

func isMarked(t *testing.T, r *card.Registry, n api.Note, want api.Errno) {
	t.Helper()
	if e := r.Mark(n.Pack, n.Init, n.Sum); e != want {
		t.Errorf("Mark(%.40q, %d, %d): %d, want %d", n.Pack, n.Init, n.Sum, e, want)
	}
}

// has asks what a registry tells.
func has(t *testing.T, what string, r *card.Registry, cards, refused []api.Card, notes []api.Note, frozen bool) {
	t.Helper()
	if l := r.Cards(); !same(l, cards) {
		t.Errorf("%s: Cards %.2000q, want %.2000q", what, fmt.Sprint(l), fmt.Sprint(cards))
	}
	if l := r.Refused(); !same(l, refused) {
		t.Errorf("%s: Refused %.2000q, want %.2000q", what, fmt.Sprint(l), fmt.Sprint(refused))
	}
	if l := r.Notes(); len(l) != len(notes) || len(l) > 0 && !reflect.DeepEqual(l, notes) {
		t.Errorf("%s: Notes %v, want %v", what, l, notes)
	}
	if r.Frozen() != frozen {
		t.Errorf("%s: Frozen %v, want %v", what, r.Frozen(), frozen)
	}
}
