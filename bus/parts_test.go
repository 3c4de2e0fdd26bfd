package bus_test

import (
	"math"
	"math/big"
	"math/rand/v2"
	"slices"
	"testing"

	"reveille/api"
	"reveille/bus"
)

// P10.2: the chapter's shares, and the ends.
func TestShares(t *testing.T) {
	for _, x := range []struct {
		total   int64
		weights []int64
		shares  []int64
	}{
		{10, []int64{1, 1, 1}, []int64{4, 3, 3}},
		{11, []int64{1, 1, 1}, []int64{4, 4, 3}},
		{12, []int64{1, 1, 1}, []int64{4, 4, 4}},
		{10, []int64{0, 5}, []int64{0, 10}},
		{0, []int64{1}, []int64{0}},
		{0, []int64{3, 0, 4}, []int64{0, 0, 0}},
		{7, []int64{2, 1}, []int64{5, 2}},
		{7, []int64{1, 2}, []int64{2, 5}},
		{1, []int64{1, 2, 2}, []int64{0, 1, 0}},
		{1, []int64{0, 0, 1, 1}, []int64{0, 0, 1, 0}},
		{2, []int64{1, 3, 1, 3}, []int64{0, 1, 0, 1}},
		{1 << 62, []int64{1}, []int64{1 << 62}},
		{1 << 62, []int64{most}, []int64{1 << 62}},
		{1 << 62, []int64{most - 1, 1}, []int64{1<<62 - 1<<12, 1 << 12}},
		{1<<62 - 1, []int64{most / 2, most / 2}, []int64{1 << 61, 1<<61 - 1}},
		{1, []int64{most - 1, 1}, []int64{1, 0}},
		{1, []int64{1, most - 1}, []int64{0, 1}},
		{63, repeated(1, 64), append(repeated(1, 63), 0)},
		{65, repeated(most/64, 64), append([]int64{2}, repeated(1, 63)...)},
	} {
		isShared(t, x.total, x.weights, x.shares, api.OK)
	}
}

// P10.2: all small totals among all short rows of small weights, held against the slow one.
func TestSharesOfSmall(t *testing.T) {
	for code := range int64(5 * 5 * 5 * 5) {
		weights := []int64{code % 5, code / 5 % 5, code / 25 % 5, code / 125}
		for n := 1; n <= 4; n++ {
			for total := range int64(20) {
				if together(weights[:n]) == 0 {
					isShared(t, total, weights[:n], nil, api.ErrArg)
					continue
				}
				isShared(t, total, weights[:n], slowShares(total, weights[:n]), api.OK)
				isFair(t, total, weights[:n])
			}
		}
	}
}

// P10.2, P10.6: of any, and of those at the ends.
func TestSharesOfAny(t *testing.T) {
	for _, weights := range evenWeights() {
		for _, total := range []int64{0, 1, 2, 63, 64, 65, most - 1, most, most + 1, 1<<62 - 1, 1 << 62} {
			isShared(t, total, weights, slowShares(total, weights), api.OK)
			isFair(t, total, weights)
		}
	}
	r := rand.New(rand.NewPCG(10, 3))
	for range 10000 {
		total, weights := anyTotal(r), anyWeights(r, 1+r.IntN(64))
		isShared(t, total, weights, slowShares(total, weights), api.OK)
		isFair(t, total, weights)
	}
}

// isFair asks what follows of shares: together they are the total; none is below its part without what is left over, and none more than one above; a weight 0 has nothing.
func isFair(t *testing.T, total int64, weights []int64) {
	t.Helper()
	shares, e := bus.Shares(total, weights)
	if e != api.OK || len(shares) != len(weights) || together(shares) != total {
		t.Fatalf("Shares(%d, %v): %v %d", total, weights, shares, e)
	}
	all := big.NewInt(together(weights))
	for i, w := range weights {
		part := new(big.Int).Mul(big.NewInt(total), big.NewInt(w))
		part.Div(part, all)
		if least := part.Int64(); shares[i] < least || shares[i] > least+1 || w == 0 && shares[i] != 0 {
			t.Errorf("Shares(%d, %v): %v: %d of %d", total, weights, shares, shares[i], w)
		}
	}
}

// P10.6: of a multiple of all weights together each share is just that multiple of its weight.
func TestSharesOfMultiples(t *testing.T) {
	r := rand.New(rand.NewPCG(10, 4))
	for range 10000 {
		weights := anyWeights(r, 1+r.IntN(64))
		all := together(weights)
		by := r.Int64N((1<<62)/all + 1)
		want := slices.Clone(weights)
		for i := range want {
			want[i] *= by
		}
		isShared(t, by*all, weights, want, api.OK)
	}
}

// P10.2, R4: wrong totals, wrong weights, and both.
func TestSharesOfOdd(t *testing.T) {
	for _, total := range oddTotals() {
		for _, weights := range append(evenWeights(), oddWeights()...) {
			isShared(t, total, weights, nil, api.ErrArg)
		}
	}
	for _, weights := range oddWeights() {
		for _, total := range []int64{0, 1, 7, 1 << 62} {
			isShared(t, total, weights, nil, api.ErrArg)
		}
	}
}

// P10.3: the chapter's turns, and the ends.
func TestTurns(t *testing.T) {
	for _, x := range []struct {
		weights []int64
		n       int
		turns   []int
	}{
		{[]int64{2, 1}, 6, []int{0, 1, 0, 0, 1, 0}},
		{[]int64{1, 2}, 6, []int{1, 0, 1, 1, 0, 1}},
		{[]int64{0, 1}, 3, []int{1, 1, 1}},
		{[]int64{1}, 0, nil},
		{[]int64{1, 1}, 4, []int{0, 1, 0, 1}},
		{[]int64{5, 1, 1}, 7, []int{0, 0, 1, 0, 2, 0, 0}},
		{[]int64{most / 2, 0, most / 2}, 3, []int{0, 2, 0}},
		{[]int64{most - 1, 1}, 4, []int{0, 0, 0, 0}},
		{[]int64{1, most - 1}, 2, []int{1, 1}},
	} {
		isTurns(t, x.weights, x.n, x.turns, api.OK)
	}
}

// P10.3: of small weights, of those at the ends and of any, held against the slow one.
func TestTurnsOfAny(t *testing.T) {
	for code := range int64(6 * 6 * 6) {
		weights := []int64{code % 6, code / 6 % 6, code / 36}
		if code > 0 {
			isTurns(t, weights, 20, slowTurns(weights, 20), api.OK)
			isDue(t, weights, 40)
		}
	}
	for _, weights := range evenWeights() {
		isTurns(t, weights, 200, slowTurns(weights, 200), api.OK)
		isDue(t, weights, 4096)
	}
	r := rand.New(rand.NewPCG(10, 5))
	for range 500 {
		weights, n := anyWeights(r, 1+r.IntN(64)), r.IntN(100)
		isTurns(t, weights, n, slowTurns(weights, n), api.OK)
		isDue(t, weights, 4*n)
	}
	long := []int64{700, 0, 3000, 396}
	isTurns(t, long, 4096, slowTurns(long, 4096), api.OK)
}

// isDue asks what follows of turns: each is a weight's that is not 0; in any number of first turns nobody has more than one beyond its part, and in as many as all weights together each has just its own number.
func isDue(t *testing.T, weights []int64, n int) {
	t.Helper()
	turns, e := bus.Turns(weights, n)
	if e != api.OK || len(turns) != n {
		t.Fatalf("Turns(%v, %d): %v %d", weights, n, turns, e)
	}
	all, had := together(weights), make([]int64, len(weights))
	for at, who := range turns {
		if who < 0 || who >= len(weights) || weights[who] == 0 {
			t.Fatalf("Turns(%v, %d): %d has the turn %d", weights, n, who, at)
		}
		had[who]++
		beyond := new(big.Int).Mul(big.NewInt(had[who]-1), big.NewInt(all))
		if part := new(big.Int).Mul(big.NewInt(int64(at)+1), big.NewInt(weights[who])); beyond.Cmp(part) > 0 {
			t.Fatalf("Turns(%v, %d): %d has too many up to the turn %d", weights, n, who, at)
		}
		if int64(at)+1 == all && !slices.Equal(had, weights) {
			t.Fatalf("Turns(%v, %d): in %d turns: %v", weights, n, all, had)
		}
	}
}

// P10.6: in as many turns as all weights together, each weight has just its own number of turns; and the turns go on as they began.
func TestTurnsOfAll(t *testing.T) {
	r := rand.New(rand.NewPCG(10, 6))
	for range 300 {
		weights := repeated(0, 1+r.IntN(64))
		for range 1 + r.IntN(2048) {
			weights[r.IntN(len(weights))]++
		}
		all := int(together(weights))
		isDue(t, weights, all)
		turns, _ := bus.Turns(weights, 2*all)
		isTurns(t, weights, all, turns[:all], api.OK)
		if !slices.Equal(turns[:all], turns[all:]) {
			t.Errorf("Turns(%v): %v", weights, turns)
		}
	}
	isDue(t, repeated(64, 64), 4096)
	isDue(t, []int64{4096}, 4096)
	isDue(t, []int64{1, 4095}, 4096)
}

// P10.3, R4: a wrong number of turns, wrong weights, and both.
func TestTurnsOfOdd(t *testing.T) {
	odd := []int{-1, -2, -4096, 4097, 4098, 1 << 32, -1 << 32, math.MaxInt, math.MinInt}
	for _, n := range odd {
		for _, weights := range append(evenWeights(), oddWeights()...) {
			isTurns(t, weights, n, nil, api.ErrArg)
		}
	}
	for _, weights := range oddWeights() {
		for _, n := range []int{0, 1, 4096} {
			isTurns(t, weights, n, nil, api.ErrArg)
		}
	}
	for _, weights := range evenWeights() {
		isTurns(t, weights, 0, nil, api.OK)
		if l, e := bus.Turns(weights, 4096); len(l) != 4096 || e != api.OK {
			t.Errorf("Turns(%v, 4096): %d of them, %d", weights, len(l), e)
		}
	}
}

// isShared asks for the shares of a room, isTurns for who has a bus when.
func isShared(t *testing.T, total int64, weights, shares []int64, e api.Errno) {
	t.Helper()
	if l, got := bus.Shares(total, weights); !slices.Equal(l, shares) || got != e {
		t.Errorf("Shares(%d, %v): %v %d, want %v %d", total, weights, l, got, shares, e)
	}
}

func isTurns(t *testing.T, weights []int64, n int, turns []int, e api.Errno) {
	t.Helper()
	if l, got := bus.Turns(weights, n); !slices.Equal(l, turns) || got != e {
		t.Errorf("Turns(%v, %d): %v %d, want %v %d", weights, n, l, got, turns, e)
	}
}
