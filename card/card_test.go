package card_test

import (
	"fmt"
	"slices"
	"strings"
	"testing"

	"reveille/api"
	"reveille/card"
)

func isChecked(t *testing.T, what string, l []api.Card, at int, want api.Errno) {
	t.Helper()
	if n, e := card.Check(l); n != at || e != want {
		t.Errorf("Check, %s: %d, %d, want %d, %d", what, n, e, at, want)
	}
}

// P7.1: each card that may be, and that may not, alone and behind others.
func TestCheckCards(t *testing.T) {
	ahead := []api.Card{named("first"), named("second")}
	for what, c := range goodCards() {
		isChecked(t, what, []api.Card{c}, 0, api.OK)
		isChecked(t, what, append(slices.Clone(ahead), c), 0, api.OK)
	}
	for what, c := range oddCards() {
		isChecked(t, what, []api.Card{c}, 0, api.ErrCard)
		isChecked(t, what, append(slices.Clone(ahead), c, named("last"), c), 2, api.ErrCard)
	}
}

// P7.1: all small numbers of a card.
func TestCheckNumbers(t *testing.T) {
	ask := func(what string, n int, may bool, c api.Card) {
		want := api.ErrCard
		if may {
			want = api.OK
		}
		isChecked(t, fmt.Sprint(what, " ", n), []api.Card{c}, 0, want)
	}
	for n := range 256 {
		ask("Level", n, n <= 4, with(func(c *api.Card) { c.Level = uint8(n) }))
		ask("Score", n-128, n-128 >= -100 && n-128 <= 100, with(func(c *api.Card) { c.Score = int8(n - 128) }))
	}
	for n := -1 << 15; n < 1<<15; n++ {
		ask("Entry", n, n >= -1 && n <= 47, with(func(c *api.Card) { c.Entry = int16(n) }))
	}
}

// P7.1: each byte in a name, and in a text.
func TestCheckBytes(t *testing.T) {
	for n := range 256 {
		one := string([]byte{byte(n)})
		want := api.ErrCard
		if strings.Contains("abcdefghijklmnopqrstuvwxyz0123456789,._+-@#?", one) {
			want = api.OK
		}
		for _, s := range []string{one, one + "a", "a" + one, "a" + one + "b"} {
			what := fmt.Sprintf("the byte %02x in %q", n, s)
			isChecked(t, what, []api.Card{named(s)}, 0, want)
			isChecked(t, what, []api.Card{with(func(c *api.Card) { c.Family = s })}, 0, want)
			isChecked(t, what, []api.Card{with(func(c *api.Card) { c.Quirk = s })}, 0, want)
			text := api.OK
			if n == 0 {
				text = api.ErrCard
			}
			isChecked(t, what, []api.Card{compat(s)}, 0, text)
		}
	}
}

// P7.1: of lists the first card up to which they may not be is told.
func TestCheckLists(t *testing.T) {
	odd := with(func(c *api.Card) { c.Level = 5 })
	most := many("n", api.MaxCards)
	turned := func(at int, c api.Card) []api.Card {
		l := slices.Clone(most)
		l[at] = c
		return l
	}
	for _, x := range []struct {
		what string
		l    []api.Card
		at   int
		e    api.Errno
	}{
		{"none", nil, 0, api.OK},
		{"an empty list", []api.Card{}, 0, api.OK},
		{"one", []api.Card{uart()}, 0, api.OK},
		{"a Name twice", []api.Card{uart(), uart()}, 1, api.ErrCard},
		{"a Name twice in unlike cards", []api.Card{uart(), named("b"), with(func(c *api.Card) { *c = full(); c.Name = "uart" })}, 2, api.ErrCard},
		{"two Names twice", []api.Card{named("a"), named("b"), named("c"), named("b"), named("a")}, 3, api.ErrCard},
		{"all but the Name the same", []api.Card{named("a"), named("b"), named("ab")}, 0, api.OK},
		{"an odd one ahead of a Name twice", []api.Card{uart(), odd, uart()}, 1, api.ErrCard},
		{"a Name twice ahead of an odd one", []api.Card{uart(), uart(), odd}, 1, api.ErrCard},
		{"64", most, 0, api.OK},
		{"65", many("n", 65), 64, api.ErrCard},
		{"1000", many("n", 1000), 64, api.ErrCard},
		{"65 with an odd one", append(turned(63, odd), named("b")), 63, api.ErrCard},
		{"65, the last one odd", append(slices.Clone(most), odd), 64, api.ErrCard},
		{"64, the last one the first", turned(63, most[0]), 63, api.ErrCard},
	} {
		isChecked(t, x.what, x.l, x.at, x.e)
	}
}

// spelt is a card in a text of which no other one has the same: quoted texts don't run into one another.
func spelt(c api.Card) string {
	return fmt.Sprintf("%q %q %d %q %d %q %d", c.Name, c.Family, c.Level, c.Compat, c.Score, c.Quirk, c.Entry)
}

// P7.1: a card is the same as itself, and as none that is unlike in any field.
func TestSame(t *testing.T) {
	l := []api.Card{{}, compat(), compat("a", "b"), compat("b", "a"), compat("a", "b", "c"), compat("ab"), compat("b"), compat("a", "")}
	for _, c := range goodCards() {
		l = append(l, c)
	}
	for _, c := range oddCards() {
		l = append(l, c)
	}
	for _, a := range l {
		for _, b := range l {
			want := spelt(a) == spelt(b)
			if card.Same(a, b) != want {
				t.Errorf("Same(%.100q, %.100q): %v", fmt.Sprint(a), fmt.Sprint(b), !want)
			}
		}
	}
}

// P7.1: one field at a time.
func TestSameFields(t *testing.T) {
	for i, turn := range []func(c *api.Card){
		func(c *api.Card) { c.Name = "uart2" },
		func(c *api.Card) { c.Family = "bu" },
		func(c *api.Card) { c.Level = 2 },
		func(c *api.Card) { c.Compat = []string{"b"} },
		func(c *api.Card) { c.Compat = nil },
		func(c *api.Card) { c.Compat = []string{"a", "b"} },
		func(c *api.Card) { c.Score = -5 },
		func(c *api.Card) { c.Quirk = "half" },
		func(c *api.Card) { c.Entry = 0 },
	} {
		if card.Same(with(turn), uart()) || card.Same(uart(), with(turn)) || !card.Same(with(turn), with(turn)) {
			t.Error("the field", i)
		}
	}
	// R6: of an empty list it is the same how it is kept.
	if !card.Same(compat(), compat([]string{}...)) || !card.Same(api.Card{Compat: []string{}}, api.Card{}) {
		t.Error("empty lists are unlike")
	}
	if card.Same(compat("a", "b"), compat("b", "a")) {
		t.Error("the order of the texts is not seen")
	}
}

// P7.1: the levels' names; all others are refused.
func TestLevel(t *testing.T) {
	names := []string{"early", "bus", "core", "device", "late"}
	for n := range 256 {
		s, e := card.Level(uint8(n))
		if n < len(names) && (s != names[n] || e != api.OK) || n >= len(names) && (s != "" || e != api.ErrArg) {
			t.Errorf("Level(%d): %q, %d", n, s, e)
		}
	}
}
