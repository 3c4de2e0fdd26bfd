package roll_test

import (
	"reflect"
	"slices"
	"testing"

	"reveille/api"
	"reveille/bus"
	"reveille/crystal"
	"reveille/radio"
	"reveille/roll"
	"reveille/sensor"
	"reveille/start"
	"reveille/supply"
)

// familyNames are the families of chapter 13, in its order.
func familyNames() []string {
	return []string{"crystal", "supply", "bus", "sensor", "radio"}
}

// familyCards are all cards that the families tell, family by family.
func familyCards() [][]api.Card {
	return [][]api.Card{crystal.Cards(), supply.Cards(), bus.Cards(), sensor.Cards(), radio.Cards()}
}

// standing are those of the families' cards that stand, by the families; picked by hand from the chapters' tables.
func standing() [][]api.Card {
	l := familyCards()
	return [][]api.Card{l[0][:4], l[1][:5], l[2], l[3][:4], {l[4][0], l[4][1], l[4][3], l[4][4]}}
}

// refused are the others of them.
func refused() []api.Card {
	l := familyCards()
	return []api.Card{l[0][4], l[1][5], l[3][4], l[4][2], l[4][5]}
}

// familyTables are the families' arrays as lists, in the order of the families.
func familyTables() [][]int64 {
	rates, rails, lines, points, bands := crystal.Table(), supply.Table(), bus.Table(), sensor.Table(), radio.Table()
	return [][]int64{rates[:], rails[:], lines[:], points[:], bands[:]}
}

// row is a card's name, its level, and the number that it points to in its family's array, or none.
type row struct {
	name   string
	level  int
	points bool
	number int64
}

// chapterRows are the cards that stand, by the chapters' tables; the numbers are reckoned by hand.
func chapterRows() []row {
	return []row{
		{"fixed-clock", 0, true, 25000000}, {"watch-clock", 0, true, 32768}, {"pll", 1, true, 100000000}, {"divider", 1, true, 9000000},
		{"fixed-rail", 0, true, 3325000}, {"ldo", 1, true, 800000}, {"buck", 1, true, 5350000}, {"load-switch", 2, false, 0}, {"charger", 3, true, 25000000},
		{"simple-bus", 1, true, 271672320}, {"i2c", 1, true, 279750992}, {"spi", 1, true, 284866528}, {"bridge", 2, true, 289982064}, {"hub", 3, true, 411830640},
		{"thermistor", 3, true, 625000}, {"adc", 2, true, 4167500}, {"diode", 3, true, 16937500}, {"fuel-gauge", 4, true, 8257500},
		{"lora", 3, true, 432920000}, {"antenna", 2, false, 0}, {"wifi", 3, true, 523061888}, {"modem", 4, true, 580610000},
	}
}

// oddNames are names of no family, and of no card.
func oddNames() []string {
	return []string{
		"", " ", "\x00", "nothing", "roll", "card", "start", "api", "table", "reveille/crystal", "Crystal", "crystal ", " crystal", "crystal\x00", "crysta", "crystals",
		"Hub", "hub ", "hub\x00", "hu", "hubs", "acme,hub", "fixed", "slow", "half", "\xff\xfe", "0", "-1",
	}
}

// chapterPlan is the plan of the chapter's table, with nothing left to others.
func chapterPlan() start.Plan {
	return start.Plan{
		{Path: "crystal", Imports: nil,
			Vars: []start.Var{{Name: "table", Len: 32, Expr: start.Expr{Base: 1000000, Step: 1000000}}},
			Inits: [][]start.Step{
				{{Do: 1, Name: "table", At: 0, By: -967232}},
				{{Do: 1, Name: "table", At: 31, By: 68000000}},
			}},
		{Path: "supply", Imports: []string{"crystal"},
			Vars: []start.Var{{Name: "table", Len: 24, Expr: start.Expr{Base: 300000, Step: 12500, Reads: []start.Read{{Pack: "crystal", Name: "table", Factor: 1}}}}},
			Inits: [][]start.Step{
				{{Do: 1, Name: "table", At: 0, By: 467232}},
				{{Do: 1, Name: "table", At: 23, By: 412500}},
			}},
		{Path: "bus", Imports: []string{"crystal", "supply"},
			Vars: []start.Var{{Name: "table", Len: 20, Expr: start.Expr{Base: 268435456, Step: 65536, Reads: []start.Read{{Pack: "crystal", Name: "table", Factor: 1}, {Pack: "supply", Name: "table", Factor: 4}}}}},
			Inits: [][]start.Step{
				{{Do: 1, Name: "table", At: 0, By: 4096}},
				{{Do: 2, Name: "table", At: 19, Read: start.Read{Pack: "crystal", Name: "table", Factor: 2}}},
			}},
		{Path: "sensor", Imports: []string{"supply", "bus"},
			Vars: []start.Var{{Name: "table", Len: 16, Expr: start.Expr{Base: -200000, Step: 10000, Reads: []start.Read{{Pack: "supply", Name: "table", Factor: 1}}}}},
			Inits: [][]start.Step{
				{{Do: 1, Name: "table", At: 0, By: 25000}},
				{{Do: 1, Name: "table", At: 15, By: 500000}},
			}},
		{Path: "radio", Imports: []string{"bus", "sensor"},
			Vars: []start.Var{{Name: "table", Len: 20, Expr: start.Expr{Base: 160000000, Step: 25000, Reads: []start.Read{{Pack: "bus", Name: "table", Factor: 1}, {Pack: "sensor", Name: "table", Factor: 2}}}}},
			Inits: [][]start.Step{
				{{Do: 1, Name: "table", At: 0, By: -2320}},
				{{Do: 1, Name: "table", At: 19, By: -30640}},
			}},
		{Path: "roll", Imports: []string{"crystal", "supply", "bus", "sensor", "radio"}},
	}
}

// isList asks whether two lists are the same; of an empty one it is the same how it is kept.
func isList[T any](t *testing.T, what string, got, want []T) {
	t.Helper()
	if (len(got) > 0 || len(want) > 0) && !reflect.DeepEqual(got, want) {
		t.Errorf("%s: %v, want %v", what, got, want)
	}
}

// isTable asks for a family's array, isFound for a card, isOf for a family's cards, isEntry for a card's number.
func isTable(t *testing.T, family string, want []int64, e api.Errno) {
	t.Helper()
	if l, got := roll.Table(family); !slices.Equal(l, want) || got != e {
		t.Errorf("Table(%q): %v %d, want %v %d", family, l, got, want, e)
	}
}

func isFound(t *testing.T, name string, want api.Card, e api.Errno) {
	t.Helper()
	if c, got := roll.Find(name); !reflect.DeepEqual(c, want) || got != e {
		t.Errorf("Find(%q): %v %d, want %v %d", name, c, got, want, e)
	}
}

func isOf(t *testing.T, family string, want []api.Card, e api.Errno) {
	t.Helper()
	l, got := roll.Of(family)
	isList(t, "Of "+family, l, want)
	if got != e {
		t.Errorf("Of(%q): %d, want %d", family, got, e)
	}
}

func isEntry(t *testing.T, name string, want int64, e api.Errno) {
	t.Helper()
	if n, got := roll.Entry(name); n != want || got != e {
		t.Errorf("Entry(%q): %d %d, want %d %d", name, n, got, want, e)
	}
}
