package supply_test

import (
	"math/rand/v2"
	"testing"

	"reveille/api"
	"reveille/supply"
)

// P9.2: the chapter's windows, the ends, and those that may not be.
func TestFirst(t *testing.T) {
	for _, x := range []struct {
		w     supply.Window
		place int
		e     api.Errno
	}{
		{within(3000000, 4000000), 2, api.OK},
		{within(0, 700000), 0, api.ErrNone},
		{within(0, 799999), 0, api.ErrNone},
		{within(0, 800000), 0, api.OK},
		{within(800000, 800000), 0, api.OK},
		{within(800001, 2312499), 0, api.ErrNone},
		{within(800001, 2312500), 1, api.OK},
		{within(800001, supply.MaxMicro), 1, api.OK},
		{within(23575001, 25000000), 23, api.OK},
		{within(25000000, 25000000), 23, api.OK},
		{within(25000001, supply.MaxMicro), 0, api.ErrNone},
		{within(0, 0), 0, api.ErrNone},
		{within(0, supply.MaxMicro), 0, api.OK},
		{within(supply.MaxMicro, supply.MaxMicro), 0, api.ErrNone},
	} {
		isFirst(t, x.w, x.place, x.e)
	}
	for _, w := range oddWindows() {
		isFirst(t, w, 0, api.ErrArg)
	}
}

// P9.2, P9.6: all windows whose ends lie about the entries: what First tells is within, and none ahead of it is.
func TestFirstOfAny(t *testing.T) {
	u := ruled()
	ends := []int64{0, 1, supply.MaxMicro}
	for _, n := range u {
		ends = append(ends, n-1, n, n+1)
	}
	for _, lo := range ends {
		for _, hi := range ends {
			if lo > hi {
				isFirst(t, within(lo, hi), 0, api.ErrArg)
				continue
			}
			place, e := 0, api.ErrNone
			for i := len(u) - 1; i >= 0; i-- {
				if u[i] >= lo && u[i] <= hi {
					place, e = i, api.OK
				}
			}
			isFirst(t, within(lo, hi), place, e)
		}
	}
}

// P9.2: the chapter's lists, and the ends.
func TestMeet(t *testing.T) {
	for _, x := range []struct {
		l []supply.Window
		w supply.Window
		e api.Errno
	}{
		{[]supply.Window{within(1, 5), within(3, 9), within(0, 4)}, within(3, 4), api.OK},
		{[]supply.Window{within(1, 2), within(3, 4)}, within(0, 0), api.ErrNone},
		{[]supply.Window{within(3, 4), within(1, 2)}, within(0, 0), api.ErrNone},
		{[]supply.Window{within(1, 3), within(3, 4)}, within(3, 3), api.OK},
		{[]supply.Window{within(1, 2)}, within(1, 2), api.OK},
		{[]supply.Window{within(0, 0)}, within(0, 0), api.OK},
		{[]supply.Window{within(0, 0), within(1, 1)}, within(0, 0), api.ErrNone},
		{[]supply.Window{within(1, 2), within(3, 4), within(0, supply.MaxMicro)}, within(0, 0), api.ErrNone},
		{[]supply.Window{within(supply.MaxMicro, supply.MaxMicro)}, within(supply.MaxMicro, supply.MaxMicro), api.OK},
		{nil, within(0, 1099511627776), api.OK},
		{[]supply.Window{}, within(0, 1099511627776), api.OK},
	} {
		isMet(t, x.l, x.w, x.e)
	}
}

// P9.2: one that may not be, alone and anywhere among others, also where the others don't meet.
func TestMeetOfOdd(t *testing.T) {
	for _, odd := range oddWindows() {
		isMet(t, []supply.Window{odd}, within(0, 0), api.ErrArg)
		for at := range 4 {
			apart := []supply.Window{within(1, 2), within(3, 4), within(5, 6), within(7, 8)}
			apart[at] = odd
			isMet(t, apart, within(0, 0), api.ErrArg)
			same := []supply.Window{within(1, 9), within(1, 9), within(1, 9), within(1, 9)}
			same[at] = odd
			isMet(t, same, within(0, 0), api.ErrArg)
		}
	}
}

// P9.2, P9.6: of any lists: what is within what they meet in is within each of them, and the other way round.
func TestMeetOfAny(t *testing.T) {
	r := rand.New(rand.NewPCG(9, 2))
	for range 5000 {
		l := anyWindows(r, r.IntN(6))
		met, e := supply.Meet(l)
		if e != api.OK && e != api.ErrNone || e == api.ErrNone && met != within(0, 0) {
			t.Fatalf("Meet(%v): %v %d", l, met, e)
		}
		for _, n := range numbersAbout(append(l, met, anyWindow(r))) {
			in := e == api.OK && n >= met.Lo && n <= met.Hi
			if in != inEach(l, n) {
				t.Errorf("Meet(%v): %v %d, but %d is within each: %v", l, met, e, n, !in)
			}
		}
	}
}

// numbersAbout are the ends of windows and those beside them, as far as a window may have them.
func numbersAbout(l []supply.Window) []int64 {
	var all []int64
	for _, w := range l {
		for _, n := range []int64{w.Lo - 1, w.Lo, w.Lo + 1, w.Hi - 1, w.Hi, w.Hi + 1} {
			if n >= 0 && n <= supply.MaxMicro {
				all = append(all, n)
			}
		}
	}
	return all
}

// inEach says whether microvolts are within each of some windows.
func inEach(l []supply.Window, n int64) bool {
	for _, w := range l {
		if n < w.Lo || n > w.Hi {
			return false
		}
	}
	return true
}

// P9.6: what is met hangs neither on the order nor on the grouping.
func TestMeetInAnyOrder(t *testing.T) {
	r := rand.New(rand.NewPCG(9, 3))
	for range 5000 {
		l := anyWindows(r, 1+r.IntN(6))
		want, e := supply.Meet(l)
		cut := r.IntN(len(l) + 1)
		a, ae := supply.Meet(l[:cut])
		b, be := supply.Meet(l[cut:])
		if ae == api.OK && be == api.OK {
			isMet(t, []supply.Window{a, b}, want, e)
			isMet(t, append([]supply.Window{a}, l[cut:]...), want, e)
		} else if e != api.ErrNone {
			t.Errorf("Meet(%v): %d, but its parts: %d %d", l, e, ae, be)
		}
		r.Shuffle(len(l), func(i, j int) { l[i], l[j] = l[j], l[i] })
		isMet(t, l, want, e)
		isMet(t, append(l, l...), want, e)
	}
}

// isFirst asks for the first entry within a window, isMet for what windows have in common.
func isFirst(t *testing.T, w supply.Window, place int, e api.Errno) {
	t.Helper()
	if n, got := supply.First(w); n != place || got != e {
		t.Errorf("First(%v): %d %d, want %d %d", w, n, got, place, e)
	}
}

func isMet(t *testing.T, l []supply.Window, w supply.Window, e api.Errno) {
	t.Helper()
	if met, got := supply.Meet(l); met != w || got != e {
		t.Errorf("Meet(%v): %v %d, want %v %d", l, met, got, w, e)
	}
}
