package words_test

import (
	"fmt"
	"math"
	"slices"
	"strings"
	"testing"

	"reveille/api"
	"reveille/words"
)

// P1.5: numbers and their only form.
func TestNumber(t *testing.T) {
	for s, want := range map[string]int64{
		"0": 0, "1": 1, "-1": -1, "10": 10, "-10": -10, "1234567890": 1234567890,
		"9223372036854775807": math.MaxInt64, "-9223372036854775808": math.MinInt64,
	} {
		if n, e := words.Number(s); n != want || e != api.OK {
			t.Errorf("Number(%q): %d, %d", s, n, e)
		}
	}
	for _, s := range []string{
		"", "-", "+", "-0", "+0", "+1", "00", "01", "-01", "--1", "1-", "1 ", " 1", "1_0", "1e1", "1.0",
		"0x1", "a", "1a", "9223372036854775808", "-9223372036854775809", "18446744073709551616",
		"99999999999999999999999999", "\x00", "1\n", "１", strings.Repeat("9", 1<<16), strings.Repeat("0", 1<<16),
	} {
		if n, e := words.Number(s); n != 0 || e != api.ErrNumber {
			t.Errorf("Number(%q): %d, %d", s, n, e)
		}
	}
}

// P1.5, P1.7: of all short texts just those are numbers whose number is written so.
func TestNumberTexts(t *testing.T) {
	texts("019-+_x ", 4, func(s string) {
		n, e := words.Number(s)
		switch {
		case e == api.OK && fmt.Sprint(n) == s:
		case e == api.ErrNumber && n == 0:
			var d int64
			if _, err := fmt.Sscanf(s+"|", "%d|", &d); err == nil && fmt.Sprint(d) == s {
				t.Fatalf("Number(%q) is refused", s)
			}
		default:
			t.Fatalf("Number(%q): %d, %d", s, n, e)
		}
	})
}

// P1.5: digits to the base 16, and back.
func TestHex(t *testing.T) {
	for s, want := range map[string]uint64{
		"0x0": 0, "0x1": 1, "0x9": 9, "0xa": 10, "0xf": 15, "0x10": 16, "0xff": 255, "0xfe00": 0xfe00,
		"0x7fffffffffffffff": math.MaxInt64, "0x8000000000000000": 1 << 63, "0xffffffffffffffff": math.MaxUint64,
	} {
		if n, e := words.Hex(s); n != want || e != api.OK {
			t.Errorf("Hex(%q): %d, %d", s, n, e)
		}
		if got := words.Digits(want); got != s {
			t.Errorf("Digits(%d): %s", want, got)
		}
	}
	for _, s := range []string{
		"", "0", "0x", "x1", "ff", "10", "0xFF", "0XFF", "0Xff", "0x0f", "0x00", "0x-1", "-0x1", "+0x1", "0x+1",
		"0xg", "0x1g", "0x1_0", "0x 1", " 0x1", "0x1 ", "0x0x1", "00x1",
		"0x10000000000000000", "0x0ffffffffffffffff", "0x" + strings.Repeat("f", 1<<16),
	} {
		if n, e := words.Hex(s); n != 0 || e != api.ErrNumber {
			t.Errorf("Hex(%q): %d, %d", s, n, e)
		}
	}
}

// someNumbers stand at and about the ends of all widths.
func someNumbers() []int64 {
	l := []int64{0, math.MinInt64, math.MaxInt64}
	for shift := range 63 {
		for d := int64(-2); d <= 2; d++ {
			l = append(l, 1<<shift+d, -(1<<shift)+d)
		}
	}
	for n := int64(-70000); n <= 70000; n++ {
		l = append(l, n)
	}
	return l
}

// P1.7: a number's digits, to the base 10 and to the base 16, tell it.
func TestNumbersThereAndBack(t *testing.T) {
	for _, n := range someNumbers() {
		if got, e := words.Number(fmt.Sprint(n)); got != n || e != api.OK {
			t.Fatalf("Number of the digits of %d: %d, %d", n, got, e)
		}
		if s := words.Digits(uint64(n)); s != fmt.Sprintf("0x%x", uint64(n)) {
			t.Fatalf("Digits(%d): %s", uint64(n), s)
		}
		if got, e := words.Hex(words.Digits(uint64(n))); got != uint64(n) || e != api.OK {
			t.Fatalf("Hex of the digits of %d: %d, %d", uint64(n), got, e)
		}
	}
}

// P1.6: the chapter's examples and the ends.
func TestSmallNumbers(t *testing.T) {
	for _, x := range []struct {
		n      int64
		wrap8  int8
		sat8   int8
		wrap16 int16
		sat16  int16
	}{
		{0, 0, 0, 0, 0},
		{127, 127, 127, 127, 127},
		{128, -128, 127, 128, 128},
		{-128, -128, -128, -128, -128},
		{-129, 127, -128, -129, -129},
		{255, -1, 127, 255, 255},
		{256, 0, 127, 256, 256},
		{300, 44, 127, 300, 300},
		{32767, -1, 127, 32767, 32767},
		{32768, 0, 127, -32768, 32767},
		{-32768, 0, -128, -32768, -32768},
		{-32769, -1, -128, 32767, -32768},
		{65536, 0, 127, 0, 32767},
		{math.MaxInt64, -1, 127, -1, 32767},
		{math.MinInt64, 0, -128, 0, -32768},
	} {
		if words.Wrap8(x.n) != x.wrap8 || words.Sat8(x.n) != x.sat8 || words.Wrap16(x.n) != x.wrap16 || words.Sat16(x.n) != x.sat16 {
			t.Errorf("%d: %d, %d, %d, %d", x.n, words.Wrap8(x.n), words.Sat8(x.n), words.Wrap16(x.n), words.Sat16(x.n))
		}
	}
}

// P1.6, P1.9: wrapped is alike modulo the width, stopped is the nearest; where one tells the number both do, and asked again they stay.
func TestSmallNumbersLaws(t *testing.T) {
	for _, n := range someNumbers() {
		w8, s8 := int64(words.Wrap8(n)), int64(words.Sat8(n))
		w16, s16 := int64(words.Wrap16(n)), int64(words.Sat16(n))
		if uint64(w8-n)%(1<<8) != 0 || uint64(w16-n)%(1<<16) != 0 {
			t.Fatalf("%d wraps to %d and %d", n, w8, w16)
		}
		if (s8 == n) != (n >= -128 && n <= 127) || s8 < n && s8 != 127 || s8 > n && s8 != -128 {
			t.Fatalf("Sat8(%d): %d", n, s8)
		}
		if (s16 == n) != (n >= -32768 && n <= 32767) || s16 < n && s16 != 32767 || s16 > n && s16 != -32768 {
			t.Fatalf("Sat16(%d): %d", n, s16)
		}
		if (s8 == n) != (w8 == n) || (s16 == n) != (w16 == n) {
			t.Fatalf("%d: only one of the two tells it", n)
		}
		if int64(words.Wrap8(w8)) != w8 || int64(words.Sat8(s8)) != s8 || int64(words.Wrap16(w16)) != w16 || int64(words.Sat16(s16)) != s16 {
			t.Fatalf("%d: asked again it moves", n)
		}
	}
}

// P1.6: means go down.
func TestMean(t *testing.T) {
	for _, x := range []struct {
		l    []int8
		want int8
		e    api.Errno
	}{
		{nil, 0, api.ErrArg},
		{[]int8{}, 0, api.ErrArg},
		{[]int8{-1, 0}, -1, api.OK},
		{[]int8{127, 127}, 127, api.OK},
		{[]int8{-128, -127}, -128, api.OK},
		{[]int8{-128, 127}, -1, api.OK},
		{[]int8{-3, 0, 0}, -1, api.OK},
		{[]int8{-4, 0, 0}, -2, api.OK},
		{[]int8{1, 2}, 1, api.OK},
		{[]int8{1, 1, 3}, 1, api.OK},
		{slices.Repeat([]int8{127}, 1<<17), 127, api.OK},
		{slices.Repeat([]int8{-128}, 1<<17), -128, api.OK},
		{append(slices.Repeat([]int8{-128}, 999), -127), -128, api.OK},
	} {
		if m, e := words.Mean(x.l); m != x.want || e != x.e {
			t.Errorf("Mean of %d numbers: %d, %d, want %d, %d", len(x.l), m, e, x.want, x.e)
		}
	}
}

// P1.6, P1.9: a mean is the greatest whole number that is not above the quotient, from the least to the greatest; of one number it is that.
func TestMeanLaws(t *testing.T) {
	for n := -128; n <= 127; n++ {
		if m, e := words.Mean([]int8{int8(n)}); int(m) != n || e != api.OK {
			t.Fatalf("Mean of %d: %d, %d", n, m, e)
		}
		for k := -128; k <= 127; k++ {
			for _, l := range [][]int8{{int8(n), int8(k)}, {int8(n), int8(k), int8(k)}} {
				sum := n + (len(l)-1)*k
				m, e := words.Mean(l)
				if e != api.OK || int(m)*len(l) > sum || (int(m)+1)*len(l) <= sum || m < min(l[0], l[1]) || m > max(l[0], l[1]) {
					t.Fatalf("Mean(%d): %d, %d", l, m, e)
				}
			}
		}
	}
}

// P1.6: steps stop at the ends, and say so.
func TestStep(t *testing.T) {
	for _, x := range []struct {
		a, b, want int16
		ok         bool
	}{
		{32767, 1, 32767, false},
		{-5, 5, 0, true},
		{32767, 0, 32767, true},
		{32766, 1, 32767, true},
		{32767, 32767, 32767, false},
		{-32768, -1, -32768, false},
		{-32767, -1, -32768, true},
		{-32768, -32768, -32768, false},
		{-32768, 32767, -1, true},
	} {
		if s, ok := words.Step(x.a, x.b); s != x.want || ok != x.ok {
			t.Errorf("Step(%d, %d): %d, %v", x.a, x.b, s, ok)
		}
		if s, ok := words.Step(x.b, x.a); s != x.want || ok != x.ok {
			t.Errorf("Step(%d, %d): %d, %v", x.b, x.a, s, ok)
		}
	}
	for a := -32768; a <= 32767; a += 251 {
		for b := -32768; b <= 32767; b += 97 {
			s, ok := words.Step(int16(a), int16(b))
			if s != words.Sat16(int64(a+b)) || ok != (int(s) == a+b) {
				t.Fatalf("Step(%d, %d): %d, %v", a, b, s, ok)
			}
		}
	}
}
