package supply_test

import (
	"math"
	"math/big"
	"math/rand/v2"

	"reveille/api"
	"reveille/card"
	"reveille/crystal"
	"reveille/supply"
)

// ruled is the family's array as the chapter says that it is reckoned, from crystal's as it stands.
func ruled() [supply.Rails]int64 {
	rates := crystal.Table()
	var all [supply.Rails]int64
	for i := range all {
		all[i] = card.Entry(i, 300000, 12500, []card.Read{{Factor: 1, Of: rates[:]}})
	}
	all[0] += 467232
	all[23] += 412500
	return all
}

// chapterCards are the cards of the chapter's table.
func chapterCards() []api.Card {
	row := func(name string, level uint8, score int8, quirk string, entry int16, compat ...string) api.Card {
		return api.Card{Name: name, Family: "supply", Level: level, Compat: compat, Score: score, Quirk: quirk, Entry: entry}
	}
	return []api.Card{
		row("fixed-rail", 0, 0, "", 2, "fixed-rail"),
		row("ldo", 1, 5, "", 0, "acme,ldo-2", "acme,ldo"),
		row("buck", 1, 20, "half", 4, "acme,buck", "fixed-rail"),
		row("load-switch", 2, 0, "slow", -1, "acme,load-switch"),
		row("charger", 3, -5, "", 23, "acme,charger"),
		row("fixed-rail", 4, 60, "", 3, "fixed-rail"),
	}
}

// oddPlaces are places that the array has not.
func oddPlaces() []int {
	return []int{-1, -2, -24, 24, 25, 31, 32, 48, 1 << 32, -1 << 32, 1<<32 + 1, math.MaxInt, math.MinInt}
}

// oddSlews are no finite numbers above 0.
func oddSlews() []float64 {
	return []float64{0, math.Copysign(0, -1), -1, -1000, -math.SmallestNonzeroFloat64, -math.MaxFloat64, math.NaN(), math.Copysign(math.NaN(), -1), math.Inf(1), math.Inf(-1)}
}

// evenSlews are finite numbers above 0, from the least on to the greatest one.
func evenSlews() []float64 {
	return []float64{math.SmallestNonzeroFloat64, 1e-308, 1e-300, 0.1, 1, 3, 1000, 12500.5, 1e7, 1e300, math.MaxFloat64}
}

// within makes a window.
func within(lo, hi int64) supply.Window { return supply.Window{Lo: lo, Hi: hi} }

// oddWindows may not be.
func oddWindows() []supply.Window {
	const most = 1 << 40
	return []supply.Window{
		within(5, 4), within(-1, 4), within(-1, -1), within(-2, -3), within(0, -1), within(0, most+1), within(most+1, most+1),
		within(most, most-1), within(most+1, most), within(math.MinInt64, math.MaxInt64), within(math.MaxInt64, math.MinInt64),
		within(0, math.MaxInt64), within(0, math.MinInt64), within(math.MinInt64, 0), within(800000, 799999),
	}
}

// anyWindow is one that may be; most of them lie about the array's entries.
func anyWindow(r *rand.Rand) supply.Window {
	end := func() int64 {
		if r.IntN(2) == 0 {
			return ruled()[r.IntN(supply.Rails)] + r.Int64N(5) - 2
		}
		return r.Int64N(int64(1)<<r.IntN(41) + 1)
	}
	a, b := end(), end()
	return within(min(a, b), max(a, b))
}

// anyWindows are n of them; many of them meet.
func anyWindows(r *rand.Rand, n int) []supply.Window {
	var all []supply.Window
	for range n {
		w := anyWindow(r)
		if r.IntN(3) > 0 {
			w.Hi = supply.MaxMicro - r.Int64N(1000)
		}
		all = append(all, w)
	}
	return all
}

// slowCode is Code by the words of the chapter, in numbers of any size: of the three about the quotient the nearest one, the least first.
func slowCode(micro int64) (int16, bool) {
	near, least := int64(0), (*big.Int)(nil)
	for n := micro/12500 - 2; n <= micro/12500+2; n++ {
		apart := new(big.Int).Mul(big.NewInt(n), big.NewInt(12500))
		apart.Sub(apart, big.NewInt(micro)).Abs(apart)
		if least == nil || apart.Cmp(least) < 0 {
			near, least = n, apart
		}
	}
	if near > 32767 {
		return 32767, false
	}
	if near < -32768 {
		return -32768, false
	}
	return int16(near), true
}
