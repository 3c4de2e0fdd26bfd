package radio_test

import (
	"math"
	"math/rand/v2"
	"slices"
	"testing"

	"reveille/api"
	"reveille/radio"
)

// P12.2: hops that were reckoned beside the program; of the seed 5 the first two places change their bands ahead of the second round.
func TestHops(t *testing.T) {
	first := []int{10, 17, 2, 14, 3, 11, 19, 8, 5, 1, 18, 7, 15, 13, 0, 16, 12, 6, 4, 9, 13, 3, 9, 18, 1, 19, 12, 11, 15, 16, 4, 8, 2, 10, 14, 0, 5, 17, 7, 6}
	isHops(t, 0, 40, first, api.OK)
	isHops(t, 0x9E3779B97F4A7C15, 40, first, api.OK)
	isHops(t, 1, 20, []int{16, 10, 17, 19, 7, 12, 8, 6, 9, 14, 18, 13, 0, 3, 4, 5, 2, 15, 11, 1}, api.OK)
	isHops(t, 5, 40, []int{17, 14, 3, 2, 7, 9, 19, 18, 4, 8, 1, 11, 6, 16, 10, 0, 12, 13, 15, 5, 3, 5, 6, 7, 10, 18, 4, 11, 12, 1, 19, 2, 15, 0, 8, 17, 16, 13, 14, 9}, api.OK)
	isHops(t, 7, 40, []int{12, 18, 9, 1, 6, 0, 14, 8, 4, 11, 5, 3, 13, 19, 10, 2, 16, 15, 17, 7, 14, 16, 5, 11, 4, 12, 17, 19, 18, 9, 6, 0, 10, 2, 1, 15, 3, 13, 7, 8}, api.OK)
	isHops(t, math.MaxUint64, 40, []int{5, 10, 3, 0, 14, 17, 18, 2, 12, 13, 11, 15, 1, 9, 7, 16, 19, 6, 8, 4, 18, 15, 16, 0, 8, 13, 2, 11, 17, 19, 1, 4, 5, 6, 10, 7, 3, 9, 12, 14}, api.OK)
}

// anySeeds are small seeds, seeds of one bit, and any others.
func anySeeds(r *rand.Rand) []uint64 {
	seeds := []uint64{math.MaxUint64, math.MaxUint64 - 1, 1<<63 - 1, 0x9E3779B97F4A7C15}
	for i := range uint64(100) {
		seeds = append(seeds, i, r.Uint64()>>r.IntN(64))
	}
	for bit := range 64 {
		seeds = append(seeds, 1<<bit)
	}
	return seeds
}

// P12.2: of many seeds, held against the slow ones: those too whose first hop is 0, which no hop is ahead of.
func TestHopsOfAny(t *testing.T) {
	r := rand.New(rand.NewPCG(12, 3))
	changed, noughts := 0, 0
	for _, seed := range anySeeds(r) {
		want, n := slowHops(seed, 1+r.IntN(200))
		isHops(t, seed, len(want), want, api.OK)
		changed += n
		if want[0] == 0 {
			noughts++
		}
	}
	if changed < 20 || noughts < 5 {
		t.Errorf("too few of the seeds tell anything: %d %d", changed, noughts)
	}
}

// P12.2, P12.6: the hops of a lesser n are the beginning, in the midst of a round too.
func TestHopsOfFewer(t *testing.T) {
	for _, seed := range []uint64{0, 5, 7, math.MaxUint64} {
		all, _ := slowHops(seed, radio.MaxHops)
		for n := range 130 {
			isHops(t, seed, n, all[:n], api.OK)
		}
		for _, n := range []int{1000, 4079, 4080, 4081, 4095, 4096} {
			isHops(t, seed, n, all[:n], api.OK)
		}
	}
}

// P12.6: each round has each band once, and no two neighbours are the same; the rounds meet so, too.
func TestHopsOfRounds(t *testing.T) {
	r := rand.New(rand.NewPCG(12, 4))
	for _, seed := range anySeeds(r) {
		l, e := radio.Hops(seed, radio.MaxHops)
		if len(l) != 4096 || e != api.OK {
			t.Fatalf("Hops(%d, 4096): %d of them, %d", seed, len(l), e)
		}
		for i := 1; i < len(l); i++ {
			if l[i] == l[i-1] {
				t.Errorf("the seed %d: the hop %d is the one ahead", seed, i)
			}
		}
		for round := range slices.Chunk(l, radio.Bands) {
			isRound(t, seed, round)
		}
	}
}

// isRound asks whether hops of one round are bands, each once at most: so twenty of them are all.
func isRound(t *testing.T, seed uint64, round []int) {
	t.Helper()
	var had [radio.Bands]int
	for _, band := range round {
		if band < 0 || band >= radio.Bands {
			t.Fatalf("the seed %d: %d is no band", seed, band)
		}
		if had[band]++; had[band] > 1 {
			t.Errorf("the seed %d: %d stands twice in %v", seed, band, round)
		}
	}
}

// P12.2, R4: no hops, and numbers that are not told.
func TestHopsOfOdd(t *testing.T) {
	if radio.MaxHops != 4096 {
		t.Error("MaxHops:", radio.MaxHops)
	}
	for _, seed := range []uint64{0, 1, 7, math.MaxUint64} {
		isHops(t, seed, 0, nil, api.OK)
		for _, n := range []int{-1, -2, -20, 4097, 4098, 1 << 32, -1 << 32, 1<<32 + 1, math.MaxInt, math.MinInt} {
			isHops(t, seed, n, nil, api.ErrArg)
		}
	}
}

// isHops asks for hops.
func isHops(t *testing.T, seed uint64, n int, hops []int, e api.Errno) {
	t.Helper()
	if l, got := radio.Hops(seed, n); !slices.Equal(l, hops) || got != e {
		t.Errorf("Hops(%d, %d): %v %d, want %v %d", seed, n, l, got, hops, e)
	}
}
