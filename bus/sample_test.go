package bus_test

import (
	"math"
	"math/big"
	"math/rand/v2"

	"reveille/api"
	"reveille/bus"
	"reveille/card"
	"reveille/crystal"
	"reveille/supply"
)

// most is what weights are together at most.
const most = 1 << 50

// ruled is the family's array as the chapter says that it is reckoned, from crystal's and supply's as they stand.
func ruled() [bus.Lines]int64 {
	rates, rails := crystal.Table(), supply.Table()
	var all [bus.Lines]int64
	for i := range all {
		all[i] = card.Entry(i, 268435456, 65536, []card.Read{{Factor: 1, Of: rates[:]}, {Factor: 4, Of: rails[:]}})
	}
	all[0] += 4096
	all[19] += 2 * rates[19]
	return all
}

// chapterCards are the cards of the chapter's table.
func chapterCards() []api.Card {
	row := func(name string, level uint8, score int8, quirk string, entry int16, compat ...string) api.Card {
		return api.Card{Name: name, Family: "bus", Level: level, Compat: compat, Score: score, Quirk: quirk, Entry: entry}
	}
	return []api.Card{
		row("simple-bus", 1, 0, "", 0, "simple-bus"),
		row("i2c", 1, 10, "slow", 1, "acme,i2c-b", "acme,i2c"),
		row("spi", 1, 10, "", 2, "acme,spi"),
		row("bridge", 2, -5, "", 3, "acme,bridge", "simple-bus"),
		row("hub", 3, 0, "half", 19, "acme,hub", "acme,bridge"),
	}
}

// oddPlaces are places that the array has not.
func oddPlaces() []int {
	return []int{-1, -2, -20, 20, 21, 24, 32, 40, 1 << 32, -1 << 32, 1<<32 + 1, math.MaxInt, math.MinInt}
}

// repeated is a list of n numbers that are the same.
func repeated(w int64, n int) []int64 {
	var all []int64
	for range n {
		all = append(all, w)
	}
	return all
}

// evenWeights are lists at the ends of what weights may be.
func evenWeights() [][]int64 {
	return [][]int64{
		{1}, {0, 1}, {1, 0}, {0, 0, 0, 5, 0}, {most}, {most - 1, 1}, {0, most, 0}, {1, most - 1}, {most / 2, most / 2},
		repeated(1, 64), repeated(most/64, 64), append(repeated(0, 63), 1), append([]int64{most - 63}, repeated(1, 63)...),
	}
}

// oddWeights are none: too many or too few, below 0, all of them 0, too much together, also by a sum that would wrap.
func oddWeights() [][]int64 {
	return [][]int64{
		nil, {}, {0}, {0, 0}, repeated(0, 64), repeated(1, 65), append([]int64{5}, repeated(0, 64)...), repeated(1, 1000),
		{-1}, {-1, 2}, {2, -1}, {5, 0, -5}, {0, -1}, {most, -1}, {-1, most + 1}, {math.MinInt64}, {math.MinInt64, math.MaxInt64}, {math.MinInt64, math.MinInt64, 1},
		{most + 1}, {most, 1}, {1, most}, {most - 1, 1, 1}, append(repeated(most/64, 63), most/64+1), append(repeated(1, 63), most-62),
		{math.MaxInt64}, {math.MaxInt64, math.MaxInt64, 3}, {1 << 62, 1 << 62, 1 << 62, 1 << 62, 7}, {1, math.MaxInt64, math.MaxInt64, 2}, repeated(math.MaxInt64, 64),
	}
}

// oddTotals are rooms that are not parted.
func oddTotals() []int64 {
	return []int64{-1, -2, -most, 1<<62 + 1, 1<<62 + 1<<61, math.MaxInt64, math.MinInt64, math.MinInt64 + 1}
}

// anyWeights are n weights, from small ones to the greatest; about a third of them is 0.
func anyWeights(r *rand.Rand, n int) []int64 {
	all := repeated(0, n)
	bits := r.IntN(45)
	for i := range all {
		if r.IntN(3) > 0 {
			all[i] = r.Int64N(int64(1)<<bits + 1)
		}
	}
	all[r.IntN(n)] = 1 + r.Int64N(int64(1)<<bits)
	return all
}

// anyTotal is a room of any size.
func anyTotal(r *rand.Rand) int64 { return r.Int64N(int64(1)<<r.IntN(63) + 1) }

// together is the sum of all numbers, which has room.
func together(l []int64) int64 { return card.Sum(l) }

// slowShares are Shares by the words of the chapter, in numbers of any size: what lacks is given out one by one.
func slowShares(total int64, weights []int64) []int64 {
	all := big.NewInt(together(weights))
	shares, over := make([]int64, len(weights)), make([]*big.Int, len(weights))
	lacks := total
	for i, w := range weights {
		part, rest := new(big.Int).QuoRem(new(big.Int).Mul(big.NewInt(total), big.NewInt(w)), all, new(big.Int))
		shares[i], over[i] = part.Int64(), rest
		lacks -= shares[i]
	}
	for ; lacks > 0; lacks-- {
		who := 0
		for i := range over {
			if over[i].Cmp(over[who]) > 0 {
				who = i
			}
		}
		shares[who]++
		over[who] = big.NewInt(-1)
	}
	return shares
}

// slowTurns are Turns, each asked anew by what the weights have had so far: a credit is what has come in, less what was taken.
func slowTurns(weights []int64, n int) []int {
	all := big.NewInt(together(weights))
	had := make([]int64, len(weights))
	var turns []int
	for turn := range n {
		who, greatest := -1, (*big.Int)(nil)
		for i, w := range weights {
			credit := new(big.Int).Mul(big.NewInt(int64(turn)+1), big.NewInt(w))
			credit.Sub(credit, new(big.Int).Mul(big.NewInt(had[i]), all))
			if greatest == nil || credit.Cmp(greatest) > 0 {
				who, greatest = i, credit
			}
		}
		had[who]++
		turns = append(turns, who)
	}
	return turns
}

// slowOrder is Order by picking: of what is left the first one of the least entry, or of the greatest one.
func slowOrder(l []int, down bool) []int {
	u := ruled()
	left := append([]int{}, l...)
	var line []int
	for len(left) > 0 {
		who := 0
		for i := range left {
			a, b := u[left[i]], u[left[who]]
			if !down && a < b || down && a > b {
				who = i
			}
		}
		line = append(line, left[who])
		left = append(left[:who], left[who+1:]...)
	}
	return line
}
