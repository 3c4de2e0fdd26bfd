package crystal_test

import (
	"math"
	"math/big"
	"math/rand/v2"
	"testing"

	"reveille/api"
	"reveille/card"
	"reveille/crystal"
)

// limit is the greatest rate that is divided or wanted.
const limit = 1 << 40

// ruled is the family's array as the chapter says that it is reckoned.
func ruled() [crystal.Rates]int64 {
	var all [crystal.Rates]int64
	for i := range all {
		all[i] = card.Entry(i, 1000000, 1000000, nil)
	}
	all[0] -= 967232
	all[31] += 68000000
	return all
}

// chapterCards are the cards of the chapter's table.
func chapterCards() []api.Card {
	row := func(name string, level uint8, score int8, quirk string, entry int16, compat ...string) api.Card {
		return api.Card{Name: name, Family: "crystal", Level: level, Compat: compat, Score: score, Quirk: quirk, Entry: entry}
	}
	return []api.Card{
		row("fixed-clock", 0, 0, "", 24, "fixed-clock"),
		row("watch-clock", 0, 10, "slow", 0, "acme,watch", "fixed-clock"),
		row("pll", 1, 5, "double", 31, "acme,pll-b", "acme,pll"),
		row("divider", 1, 0, "half", 8, "acme,divider"),
		row("pll", 4, 50, "", 30, "acme,pll"),
	}
}

// oddPlaces are places that no array has.
func oddPlaces() []int {
	return []int{-1, -2, -32, 32, 33, 64, 1 << 32, -1 << 32, math.MaxInt, math.MinInt}
}

// oddRates are numbers below 1, or above the limit.
func oddRates() []int64 {
	return []int64{0, -1, -2, -limit, limit + 1, limit * 2, 1 << 62, math.MaxInt64, math.MinInt64, math.MinInt64 + 1}
}

// oddDividers are numbers by which a chain does not divide.
func oddDividers() []int64 {
	return []int64{0, -1, -65535, 65536, 65537, 1 << 32, 1<<32 + 1, math.MaxInt64, math.MinInt64}
}

// anyRate is a number from 1 to the limit, of any size.
func anyRate(r *rand.Rand) int64 { return 1 + r.Int64N(int64(1)<<r.IntN(41)) }

// anyDividers are n of them, of any size.
func anyDividers(r *rand.Rand, n int) []int64 {
	var all []int64
	for range n {
		all = append(all, min(1+r.Int64N(int64(1)<<r.IntN(17)), 65535))
	}
	return all
}

// repeated is a list of n numbers that are the same.
func repeated(d int64, n int) []int64 {
	var all []int64
	for range n {
		all = append(all, d)
	}
	return all
}

// quotient is a rate divided by the product of all, in numbers of any size.
func quotient(from int64, by []int64) int64 {
	product := big.NewInt(1)
	for _, d := range by {
		product.Mul(product, big.NewInt(d))
	}
	return product.Div(big.NewInt(from), product).Int64()
}

// isNear asks which place is nearest, isDivided by what is divided, isChained what is left.
func isNear(t *testing.T, want int64, place int, e api.Errno) {
	t.Helper()
	if n, got := crystal.Near(want); n != place || got != e {
		t.Errorf("Near(%d): %d %d, want %d %d", want, n, got, place, e)
	}
}

func isDivided(t *testing.T, from, want, by int64, e api.Errno) {
	t.Helper()
	if d, got := crystal.Divider(from, want); d != by || got != e {
		t.Errorf("Divider(%d, %d): %d %d, want %d %d", from, want, d, got, by, e)
	}
}

func isChained(t *testing.T, from int64, by []int64, left int64, e api.Errno) {
	t.Helper()
	if n, got := crystal.Chain(from, by); n != left || got != e {
		t.Errorf("Chain(%d, %v): %d %d, want %d %d", from, by, n, got, left, e)
	}
}
