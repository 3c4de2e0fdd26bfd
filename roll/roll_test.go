package roll_test

import (
	"slices"
	"testing"

	"reveille/api"
	"reveille/card"
	"reveille/roll"
)

// P13.1: of the families' cards the first one of each name stands, whole, in their order; the others are refused.
func TestCards(t *testing.T) {
	isList(t, "Cards", roll.Cards(), slices.Concat(standing()...))
	isList(t, "Refused", roll.Refused(), refused())
	rows := chapterRows()
	if len(rows) != 22 || len(roll.Cards()) != 22 {
		t.Fatalf("not 22 cards: %d", len(roll.Cards()))
	}
	for i, c := range roll.Cards() {
		if c.Name != rows[i].name || int(c.Level) != rows[i].level {
			t.Errorf("the card %d: %v, want %v", i, c, rows[i])
		}
	}
}

// P13.1: which one of the cards of one name was refused.
func TestRefused(t *testing.T) {
	want := []struct {
		name, family string
		level        uint8
	}{{"pll", "crystal", 4}, {"fixed-rail", "supply", 4}, {"adc", "sensor", 3}, {"hub", "radio", 3}, {"wifi", "radio", 1}}
	l := roll.Refused()
	if len(l) != len(want) {
		t.Fatal("Refused:", l)
	}
	for i, c := range l {
		if c.Name != want[i].name || c.Family != want[i].family || c.Level != want[i].level {
			t.Errorf("refused: %v, want %v", c, want[i])
		}
	}
}

// P13.1: all cards of the families stand or are refused, and none else.
func TestNoneIsLost(t *testing.T) {
	all := slices.Concat(familyCards()...)
	both := append(roll.Cards(), roll.Refused()...)
	if len(both) != len(all) {
		t.Errorf("%d cards of %d", len(both), len(all))
	}
	for _, c := range all {
		if !slices.ContainsFunc(both, func(d api.Card) bool { return card.Same(c, d) }) {
			t.Errorf("lost: %v", c)
		}
	}
}

// P13.2: the families, and their arrays.
func TestTable(t *testing.T) {
	isList(t, "Families", roll.Families(), familyNames())
	tables := familyTables()
	for i, family := range familyNames() {
		isTable(t, family, tables[i], api.OK)
	}
	l, _ := roll.Table("crystal")
	if len(l) != 32 || l[0] != 32768 || l[1] != 2000000 || l[30] != 31000000 || l[31] != 100000000 {
		t.Error("crystal:", l)
	}
}

// P13.2, R4: what is no family.
func TestTableOfOdd(t *testing.T) {
	for _, name := range oddNames() {
		isTable(t, name, nil, api.ErrNone)
	}
	for _, r := range chapterRows() {
		isTable(t, r.name, nil, api.ErrNone)
	}
}

// P13.3: each card by its name: of two of one name the one that stands.
func TestFind(t *testing.T) {
	for _, c := range slices.Concat(standing()...) {
		isFound(t, c.Name, c, api.OK)
	}
	isFound(t, "hub", api.Card{Name: "hub", Family: "bus", Level: 3, Compat: []string{"acme,hub", "acme,bridge"}, Quirk: "half", Entry: 19}, api.OK)
	isFound(t, "pll", api.Card{Name: "pll", Family: "crystal", Level: 1, Compat: []string{"acme,pll-b", "acme,pll"}, Score: 5, Quirk: "double", Entry: 31}, api.OK)
	isFound(t, "wifi", api.Card{Name: "wifi", Family: "radio", Level: 3, Compat: []string{"acme,wifi"}, Quirk: "slow", Entry: 12}, api.OK)
}

// P13.3, R4: names of no card; a family's is none.
func TestFindOfOdd(t *testing.T) {
	for _, name := range append(oddNames(), familyNames()...) {
		isFound(t, name, api.Card{}, api.ErrNone)
	}
}

// P13.3: each family's cards; radio's are four, and hub is not among them.
func TestOf(t *testing.T) {
	cards := standing()
	for i, family := range familyNames() {
		isOf(t, family, cards[i], api.OK)
	}
	for family, want := range map[string][]string{
		"sensor": {"thermistor", "adc", "diode", "fuel-gauge"}, "radio": {"lora", "antenna", "wifi", "modem"},
		"bus": {"simple-bus", "i2c", "spi", "bridge", "hub"},
	} {
		l, _ := roll.Of(family)
		isList(t, family, namesOf(l), want)
	}
}

// namesOf are the cards' names.
func namesOf(l []api.Card) []string {
	var names []string
	for _, c := range l {
		names = append(names, c.Name)
	}
	return names
}

// P13.3, R4: what is no family; roll, which the plan has as a package, is none either.
func TestOfOdd(t *testing.T) {
	for _, name := range oddNames() {
		isOf(t, name, nil, api.ErrNone)
	}
	for _, r := range chapterRows() {
		isOf(t, r.name, nil, api.ErrNone)
	}
}

// P13.3: for each level the names of its cards, rising.
func TestRanks(t *testing.T) {
	for level, want := range [5][]string{
		{"fixed-clock", "fixed-rail", "watch-clock"},
		{"buck", "divider", "i2c", "ldo", "pll", "simple-bus", "spi"},
		{"adc", "antenna", "bridge", "load-switch"},
		{"charger", "diode", "hub", "lora", "thermistor", "wifi"},
		{"fuel-gauge", "modem"},
	} {
		got := roll.Ranks()[level]
		isList(t, "Ranks", got, want)
		for _, name := range got {
			if c, e := roll.Find(name); e != api.OK || int(c.Level) != level {
				t.Errorf("%s stands at the level %d: %v %d", name, level, c, e)
			}
		}
	}
}

// P13.3: the numbers that the cards point to, in their own families' arrays; of those that point to none, none.
func TestEntry(t *testing.T) {
	for _, r := range chapterRows() {
		if r.points {
			isEntry(t, r.name, r.number, api.OK)
		} else {
			isEntry(t, r.name, 0, api.ErrNone)
		}
	}
	lines, _ := roll.Table("bus")
	isEntry(t, "hub", lines[len(lines)-1], api.OK)
}

// P13.3, R4: the number of no card.
func TestEntryOfOdd(t *testing.T) {
	for _, name := range append(oddNames(), familyNames()...) {
		isEntry(t, name, 0, api.ErrNone)
	}
}

// P13.7: the cards are a list that may be, and a registry has the same ones, into which the families' cards are entered.
func TestRegistry(t *testing.T) {
	if at, e := card.Check(roll.Cards()); at != 0 || e != api.OK {
		t.Errorf("Check: %d %d", at, e)
	}
	r, taken := card.New(), 0
	for _, c := range slices.Concat(familyCards()...) {
		switch e := r.Enter(c); e {
		case api.OK:
		case api.ErrTaken:
			taken++
		default:
			t.Errorf("%v: %d", c, e)
		}
	}
	if taken != 5 {
		t.Error("refused:", taken)
	}
	isList(t, "Cards", roll.Cards(), r.Cards())
	isList(t, "Refused", roll.Refused(), r.Refused())
}
