package match_test

import (
	"math"
	"math/big"
	"math/rand/v2"
	"slices"
	"testing"

	"reveille/api"
	"reveille/bus"
	"reveille/crystal"
	"reveille/match"
	"reveille/radio"
	"reveille/roll"
	"reveille/sensor"
	"reveille/supply"
)

// turned is a number as a quirk turns it, reckoned in numbers of any size; false, if there is no such quirk.
func turned(name string, n int64) (int64, bool) {
	big0 := big.NewInt(n)
	switch name {
	case "":
	case "slow":
		big0.Quo(big0, big.NewInt(4))
	case "half":
		big0.Quo(big0, big.NewInt(2))
	case "double":
		big0.Mul(big0, big.NewInt(2))
	case "odd":
		if big0.Bit(0) == 1 {
			big0.Neg(big0)
		}
	default:
		return 0, false
	}
	// What is below 0 is told by what stands 2^64 above it.
	return int64(big0.Mod(big0, new(big.Int).Lsh(big.NewInt(1), 64)).Uint64()), true
}

// numbers are the ends, and some between.
func numbers() []int64 {
	l := []int64{0, math.MaxInt64, math.MinInt64, math.MaxInt64 - 1, math.MinInt64 + 1, 1 << 62, -1 << 62, 1<<62 - 1, 1<<62 + 1, -1<<62 - 1}
	for n := range int64(40) {
		l = append(l, n, -n)
	}
	r := rand.New(rand.NewPCG(14, 3))
	for range 2000 {
		l = append(l, int64(r.Uint64())>>r.IntN(64))
	}
	return l
}

// oddQuirks are names of no quirk.
func oddQuirks() []string {
	return []string{"fast", "slow ", " slow", "slo", "slows", "Slow", "SLOW", "\x00", "half\x00", "quarter", "even", "none", "-", "0", "\xff", "crystal", "doubl", "slow,half"}
}

// P14.3: the chapter's examples.
func TestQuirkExamples(t *testing.T) {
	for _, x := range []struct {
		name    string
		n, want int64
	}{
		{"half", -5, -2}, {"half", 5, 2}, {"slow", 7, 1}, {"slow", -7, -1}, {"double", 1 << 62, -1 << 63}, {"double", -1 << 63, 0},
		{"odd", 3, -3}, {"odd", -3, 3}, {"odd", 4, 4}, {"odd", -4, -4}, {"odd", 0, 0}, {"odd", math.MinInt64, math.MinInt64}, {"odd", math.MaxInt64, -math.MaxInt64}, {"", 5, 5},
	} {
		turn, known := match.Quirk(x.name)
		if !known || turn(x.n) != x.want {
			t.Errorf("%s of %d is not %d", x.name, x.n, x.want)
		}
	}
}

// P14.3: each quirk over many numbers; the same closure tells the same again.
func TestQuirk(t *testing.T) {
	for _, name := range append(match.Quirks(), "") {
		turn, known := match.Quirk(name)
		again, _ := match.Quirk(name)
		if !known || turn == nil {
			t.Fatalf("no quirk %q", name)
		}
		for _, n := range numbers() {
			if want, _ := turned(name, n); turn(n) != want || turn(n) != want || again(n) != want {
				t.Errorf("%q of %d: %d, want %d", name, n, turn(n), want)
			}
		}
	}
}

// P14.3, R4: what is no quirk.
func TestOddQuirk(t *testing.T) {
	for _, name := range oddQuirks() {
		if turn, known := match.Quirk(name); turn != nil || known {
			t.Errorf("a quirk %q", name)
		}
	}
}

// P14.3: all quirks, but for the one without a name.
func TestQuirks(t *testing.T) {
	if l := match.Quirks(); !slices.Equal(l, []string{"slow", "half", "double", "odd"}) {
		t.Errorf("Quirks: %q", l)
	}
}

// P14.3: the chapter's examples.
func TestSettingExamples(t *testing.T) {
	c, _ := roll.Find("fixed-clock")
	isSetting(t, c, 25000000, api.OK)
	c.Entry = -1
	isSetting(t, c, 0, api.OK)
	c.Family = "nobody"
	isSetting(t, c, 0, api.ErrNone)
	c.Family, c.Entry = "crystal", 32
	isSetting(t, c, 0, api.ErrNone)
	c.Entry, c.Quirk = 24, "fast"
	isSetting(t, c, 0, api.ErrNone)
	c.Entry = -1
	isSetting(t, c, 0, api.ErrNone)
	c.Quirk = "odd"
	isSetting(t, c, 0, api.OK)
}

// P14.3: each entry of each family by each quirk; what stands past a table's end, or is no quirk, is none.
func TestSetting(t *testing.T) {
	rates, rails, lines, points, bands := crystal.Table(), supply.Table(), bus.Table(), sensor.Table(), radio.Table()
	for family, table := range map[string][]int64{"crystal": rates[:], "supply": rails[:], "bus": lines[:], "sensor": points[:], "radio": bands[:]} {
		for _, quirk := range append(match.Quirks(), "", "fast", "quarter", "slow,half") {
			for entry := int16(-1); entry <= 47; entry++ {
				c := api.Card{Name: "c", Family: family, Compat: []string{"c"}, Quirk: quirk, Entry: entry}
				n := int64(0)
				if entry >= 0 && int(entry) < len(table) {
					n = table[entry]
				}
				want, known := turned(quirk, n)
				if !known || int(entry) >= len(table) {
					isSetting(t, c, 0, api.ErrNone)
				} else {
					isSetting(t, c, want, api.OK)
				}
			}
		}
	}
}

// P14.3, R5: names of no family; a card that may not be is told first.
func TestOddSetting(t *testing.T) {
	for _, family := range []string{"nobody", "roll", "card", "start", "api", "match", "crysta", "crystals", "half", "0"} {
		for _, entry := range []int16{-1, 0, 47} {
			isSetting(t, api.Card{Name: "c", Family: family, Compat: []string{"c"}, Entry: entry}, 0, api.ErrNone)
		}
	}
	for what, cards := range oddCards() {
		c := cards[0]
		if len(cards) > 1 {
			// Setting looks at one card alone, so what stands beside it is not asked.
			isSetting(t, c, 0, api.OK)
			continue
		}
		t.Log(what)
		isSetting(t, c, 0, api.ErrCard)
		if c.Family == "bus" {
			c.Family = "nobody"
		}
		isSetting(t, c, 0, api.ErrCard)
		if c.Quirk == "" {
			c.Quirk = "fast"
		}
		isSetting(t, c, 0, api.ErrCard)
	}
}

// P14.5: the roll's cards, by the families' tables and their quirks, reckoned by hand.
func TestSettingOfRoll(t *testing.T) {
	want := map[string]int64{
		"fixed-clock": 25000000, "watch-clock": 8192, "pll": 200000000, "divider": 4500000,
		"fixed-rail": 3325000, "ldo": 800000, "buck": 2675000, "load-switch": 0, "charger": 25000000,
		"simple-bus": 271672320, "i2c": 69937748, "spi": 284866528, "bridge": 289982064, "hub": 205915320,
		"thermistor": 625000, "adc": 2083750, "diode": 4234375, "fuel-gauge": 16515000,
		"lora": 432920000, "antenna": 0, "wifi": 130765472, "modem": 1161220000,
	}
	if len(roll.Cards()) != len(want) {
		t.Error("cards:", len(roll.Cards()))
	}
	for _, c := range roll.Cards() {
		isSetting(t, c, want[c.Name], api.OK)
		entry, e := roll.Entry(c.Name)
		if turns, _ := turned(c.Quirk, entry); e == api.OK && turns != want[c.Name] {
			t.Errorf("%s: %d of %d is not %d", c.Name, turns, entry, want[c.Name])
		}
	}
}

// isSetting asks for the number that a card stands for.
func isSetting(t *testing.T, c api.Card, want int64, e api.Errno) {
	t.Helper()
	if n, got := match.Setting(c); n != want || got != e {
		t.Errorf("Setting(%v): %d %d, want %d %d", c, n, got, want, e)
	}
}
