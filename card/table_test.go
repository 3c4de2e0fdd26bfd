package card_test

import (
	"math"
	"math/big"
	"math/rand/v2"
	"testing"

	"reveille/card"
)

// wrapped is a number modulo 2^64, as an int64.
func wrapped(n *big.Int) int64 {
	low := new(big.Int).Mod(n, new(big.Int).Lsh(big.NewInt(1), 64))
	return int64(low.Uint64())
}

// slowEntry is Entry by the words of the chapter, in numbers of any size.
func slowEntry(i int, base, step int64, reads []card.Read) int64 {
	if i < 0 {
		return 0
	}
	times := func(a, b int64) *big.Int { return new(big.Int).Mul(big.NewInt(a), big.NewInt(b)) }
	all := big.NewInt(base)
	all.Add(all, times(step, int64(i)))
	for _, r := range reads {
		if n := len(r.Of); n > 0 {
			all.Add(all, times(r.Factor, r.Of[i%n]))
		}
	}
	return wrapped(all)
}

// anyNumber is a number, often a small one or one at an end.
func anyNumber(r *rand.Rand) int64 {
	switch r.IntN(3) {
	case 0:
		return r.Int64N(7) - 3
	case 1:
		return []int64{math.MinInt64, math.MinInt64 + 1, math.MaxInt64, math.MaxInt64 - 1, 1 << 32}[r.IntN(5)]
	}
	return int64(r.Uint64())
}

func anyNumbers(r *rand.Rand, n int) []int64 {
	var all []int64
	for range n {
		all = append(all, anyNumber(r))
	}
	return all
}

func anyReads(r *rand.Rand) []card.Read {
	var all []card.Read
	for range r.IntN(4) {
		all = append(all, card.Read{Factor: anyNumber(r), Of: anyNumbers(r, r.IntN(5))})
	}
	return all
}

func anyPlace(r *rand.Rand) int {
	switch r.IntN(10) {
	case 0:
		return int(anyNumber(r))
	case 1:
		return r.IntN(math.MaxInt)
	}
	return r.IntN(60) - 5
}

func isEntry(t *testing.T, i int, base, step int64, reads []card.Read, want int64) {
	t.Helper()
	if n := card.Entry(i, base, step, reads); n != want {
		t.Errorf("Entry(%d, %d, %d, %v): %d, want %d", i, base, step, reads, n, want)
	}
}

// P7.2: the chapter's entries, and the edges.
func TestEntry(t *testing.T) {
	two := []card.Read{{Factor: 5, Of: []int64{1, 2}}}
	for _, x := range []struct {
		i          int
		base, step int64
		reads      []card.Read
		want       int64
	}{
		{3, 10, 2, two, 26},
		{2, 10, 2, two, 19},
		{0, 10, 2, two, 15},
		{-1, 10, 2, two, 0},
		{math.MinInt, 10, 2, two, 0},
		{0, 1, 9, nil, 1},
		{0, 1, 9, []card.Read{}, 1},
		{1, math.MaxInt64, 1, nil, math.MinInt64},
		{1, math.MinInt64, -1, nil, math.MaxInt64},
		{4, 0, 1 << 62, nil, 0},
		{5, 0, 1 << 62, nil, 1 << 62},
		{math.MaxInt, 0, math.MaxInt64, nil, 1},
		{2, 0, 0, []card.Read{{Factor: 7}, {Factor: -1, Of: []int64{4}}, {Factor: 9, Of: []int64{}}}, -4},
		{2, 0, 0, []card.Read{{Factor: 2, Of: []int64{1 << 62}}, {Factor: 2, Of: []int64{1 << 62}}}, 0},
		{2, 1, 1, []card.Read{{Factor: 0, Of: []int64{5, 6, 7}}}, 3},
		{2, 1, 1, []card.Read{{Factor: 1, Of: []int64{5, 6, 7}}, {Factor: 1, Of: []int64{5, 6, 7}}}, 17},
		{math.MaxInt, 0, 0, []card.Read{{Factor: 1, Of: []int64{5, 6}}}, 6},
	} {
		isEntry(t, x.i, x.base, x.step, x.reads, x.want)
	}
}

// P7.2: any numbers, held against numbers of any size.
func TestEntryOfAny(t *testing.T) {
	r := rand.New(rand.NewPCG(7, 2))
	for range 20000 {
		i, base, step, reads := anyPlace(r), anyNumber(r), anyNumber(r), anyReads(r)
		isEntry(t, i, base, step, reads, slowEntry(i, base, step, reads))
	}
}

// P7.5: of base, step and factors together it is the sum of what each tells alone.
func TestEntryIsLinear(t *testing.T) {
	r := rand.New(rand.NewPCG(7, 5))
	for range 20000 {
		i, a, b := anyPlace(r), anyReads(r), []card.Read(nil)
		base, step, moreBase, moreStep := anyNumber(r), anyNumber(r), anyNumber(r), anyNumber(r)
		apart := card.Entry(i, base, 0, nil) + card.Entry(i, 0, step, nil)
		var both []card.Read
		for _, read := range a {
			apart += card.Entry(i, 0, 0, []card.Read{read})
			b = append(b, card.Read{Factor: anyNumber(r), Of: read.Of})
			both = append(both, card.Read{Factor: read.Factor + b[len(b)-1].Factor, Of: read.Of})
		}
		isEntry(t, i, base, step, a, apart)
		isEntry(t, i, base+moreBase, step+moreStep, both, apart+card.Entry(i, moreBase, moreStep, b))
	}
}

// P7.2: all numbers together, modulo 2^64.
func TestSum(t *testing.T) {
	for _, x := range []struct {
		l    []int64
		want int64
	}{
		{nil, 0},
		{[]int64{}, 0},
		{[]int64{1, 2}, 3},
		{[]int64{-7}, -7},
		{[]int64{math.MaxInt64, 1}, math.MinInt64},
		{[]int64{math.MinInt64, math.MinInt64}, 0},
		{[]int64{math.MaxInt64, math.MaxInt64, 2}, 0},
	} {
		if n := card.Sum(x.l); n != x.want {
			t.Errorf("Sum(%v): %d, want %d", x.l, n, x.want)
		}
	}
	r := rand.New(rand.NewPCG(7, 22))
	for range 2000 {
		l, all := anyNumbers(r, r.IntN(100)), new(big.Int)
		for _, n := range l {
			all.Add(all, big.NewInt(n))
		}
		if n := card.Sum(l); n != wrapped(all) {
			t.Errorf("Sum(%v): %d, want %d", l, n, wrapped(all))
		}
	}
}
