package supply_test

import (
	"math"
	"math/big"
	"math/rand/v2"
	"reflect"
	"testing"

	"reveille/api"
	"reveille/card"
	"reveille/supply"
)

// The limits are those of the chapter.
func TestLimits(t *testing.T) {
	if supply.Rails != 24 || supply.Grain != 12500 || supply.MaxMicro != 1099511627776 {
		t.Error(supply.Rails, supply.Grain, supply.MaxMicro)
	}
}

// P9.1: the six cards, in order; each of them may be, and all but one have an entry of the array.
func TestCards(t *testing.T) {
	l := supply.Cards()
	if !reflect.DeepEqual(l, chapterCards()) {
		t.Errorf("Cards: %v, want %v", l, chapterCards())
	}
	for _, c := range l {
		if at, e := card.Check([]api.Card{c}); e != api.OK {
			t.Errorf("%s may not be: %d %d", c.Name, at, e)
		}
		if _, e := supply.Micro(int(c.Entry)); (e == api.OK) != (c.Name != "load-switch") {
			t.Errorf("%s: the entry %d: %d", c.Name, c.Entry, e)
		}
	}
}

// P9.1: fixed-rail stands twice: a registry keeps the first.
func TestCardsEntered(t *testing.T) {
	r, l := card.New(), supply.Cards()
	for i, c := range l {
		want := api.OK
		if i == 5 {
			want = api.ErrTaken
		}
		if e := r.Enter(c); e != want {
			t.Errorf("%s: %d, want %d", c.Name, e, want)
		}
	}
	if !reflect.DeepEqual(r.Cards(), l[:5]) || !reflect.DeepEqual(r.Refused(), l[5:]) {
		t.Errorf("%v %v", r.Cards(), r.Refused())
	}
}

// P9.1: the array, and each entry of it, in microvolts and in volts, which are held against fractions that are rounded once.
func TestTable(t *testing.T) {
	u := supply.Table()
	if u != ruled() {
		t.Errorf("Table: %v, want %v", u, ruled())
	}
	for i, micro := range ruled() {
		if n, e := supply.Micro(i); n != micro || e != api.OK {
			t.Errorf("Micro(%d): %d %d, want %d", i, n, e, micro)
		}
		want, _ := big.NewRat(micro, 1000000).Float64()
		if x, e := supply.Volts(i); x != want || e != api.OK {
			t.Errorf("Volts(%d): %v %d, want %v", i, x, e, want)
		}
	}
}

// P9.1: entries that the chapter writes out.
func TestTableOfChapter(t *testing.T) {
	for i, want := range map[int]int64{0: 800000, 1: 2312500, 2: 3325000, 3: 4337500, 22: 23575000, 23: 25000000} {
		if n, e := supply.Micro(i); n != want || e != api.OK || supply.Table()[i] != want {
			t.Errorf("Micro(%d): %d %d, want %d", i, n, e, want)
		}
	}
	for i, want := range map[int]float64{0: 0.8, 1: 2.3125, 2: 3.325, 3: 4.3375, 22: 23.575, 23: 25} {
		if x, e := supply.Volts(i); x != want || e != api.OK {
			t.Errorf("Volts(%d): %v %d, want %v", i, x, e, want)
		}
	}
}

// P9.1, R4: a place that the array has not; the nought has no sign.
func TestTableOfOdd(t *testing.T) {
	for _, i := range oddPlaces() {
		if n, e := supply.Micro(i); n != 0 || e != api.ErrArg {
			t.Errorf("Micro(%d): %d %d", i, n, e)
		}
		if x, e := supply.Volts(i); math.Float64bits(x) != 0 || e != api.ErrArg {
			t.Errorf("Volts(%d): %v %d", i, x, e)
		}
	}
}

// P9.4: the chapter's, the middles, and the ends of what there is room for.
func TestCode(t *testing.T) {
	for _, x := range []struct {
		micro int64
		code  int16
		ok    bool
	}{
		{0, 0, true}, {1, 0, true}, {-1, 0, true},
		{12500, 1, true}, {12499, 1, true}, {6251, 1, true}, {6250, 0, true}, {18750, 1, true}, {18751, 2, true},
		{-12500, -1, true}, {-6249, 0, true}, {-6250, -1, true}, {-6251, -1, true}, {-18749, -1, true}, {-18750, -2, true},
		{800000, 64, true}, {2312500, 185, true}, {25000000, 2000, true},
		{409587500, 32767, true}, {409593750, 32767, true}, {409593751, 32767, false}, {409600000, 32767, false},
		{-409600000, -32768, true}, {-409606249, -32768, true}, {-409606250, -32768, false}, {-409612500, -32768, false},
		{1 << 40, 32767, false}, {-1 << 40, -32768, false}, {65536 * 12500, 32767, false}, {-65536 * 12500, -32768, false},
		{math.MaxInt64, 32767, false}, {math.MinInt64, -32768, false},
	} {
		isCode(t, x.micro, x.code, x.ok)
	}
}

// P9.4: all about each middle and each whole step, and anything else, held against the slow one.
func TestCodeOfAny(t *testing.T) {
	r := rand.New(rand.NewPCG(9, 1))
	for step := int64(-33000); step <= 33000; step++ {
		for _, at := range []int64{-6251, -6250, -6249, 0, r.Int64N(12500)} {
			code, ok := slowCode(step*12500 + at)
			isCode(t, step*12500+at, code, ok)
		}
	}
	for range 20000 {
		micro := int64(r.Uint64()) >> r.IntN(64)
		code, ok := slowCode(micro)
		isCode(t, micro, code, ok)
	}
	for away := range int64(30000) {
		isCode(t, math.MaxInt64-away, 32767, false)
		isCode(t, math.MinInt64+away, -32768, false)
	}
}

// isCode asks how many steps microvolts are.
func isCode(t *testing.T, micro int64, code int16, ok bool) {
	t.Helper()
	if n, got := supply.Code(micro); n != code || got != ok {
		t.Errorf("Code(%d): %d %v, want %d %v", micro, n, got, code, ok)
	}
}
