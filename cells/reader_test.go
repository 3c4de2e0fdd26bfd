package cells_test

import (
	"encoding/binary"
	"math"
	"slices"
	"strings"
	"testing"

	"reveille/api"
	"reveille/cells"
)

// P2.3: the chapter's example.
func TestReaderExample(t *testing.T) {
	r := cells.New("\x00\x00\x00\x01a\x00")
	if n := r.Left(); n != 6 {
		t.Errorf("Left: %d", n)
	}
	if n, e := r.Cell(); n != 1 || e != api.OK {
		t.Errorf("Cell: %d, %d", n, e)
	}
	if n, e := r.Wide(2); n != 0 || e != api.ErrForm {
		t.Errorf("Wide(2): %d, %d", n, e)
	}
	if n, e := r.Wide(3); n != 0 || e != api.ErrArg {
		t.Errorf("Wide(3): %d, %d", n, e)
	}
	if n, e := r.Wide(0); n != 0 || e != api.OK {
		t.Errorf("Wide(0): %d, %d", n, e)
	}
	if s, e := r.Text(); s != "a" || e != api.OK {
		t.Errorf("Text: %q, %d", s, e)
	}
	if n := r.Left(); n != 0 {
		t.Errorf("Left at the end: %d", n)
	}
	if s, e := r.Text(); s != "" || e != api.ErrForm {
		t.Errorf("Text at the end: %q, %d", s, e)
	}
}

// asked is one call of a reader, and what it must answer and pass over where a rest is left, reckoned without a reader.
type asked struct {
	name string
	call func(r *cells.Reader) (any, api.Errno)
	want func(rest string) (any, api.Errno, int)
}

// wantWide is what n cells of a rest are, and how many bytes are passed over.
func wantWide(rest string, n int) (uint64, api.Errno, int) {
	if n < 0 || n > 2 {
		return 0, api.ErrArg, 0
	}
	if n > len(rest)/4 {
		return 0, api.ErrForm, 0
	}
	eight := strings.Repeat("\x00", 8-4*n) + rest[:4*n]
	return binary.BigEndian.Uint64([]byte(eight)), api.OK, 4 * n
}

// calls are all that can be asked of a reader.
func calls() []asked {
	l := []asked{{
		"Cell",
		func(r *cells.Reader) (any, api.Errno) { n, e := r.Cell(); return n, e },
		func(rest string) (any, api.Errno, int) { n, e, over := wantWide(rest, 1); return uint32(n), e, over },
	}, {
		"Text",
		func(r *cells.Reader) (any, api.Errno) { s, e := r.Text(); return s, e },
		func(rest string) (any, api.Errno, int) {
			s, _, ok := strings.Cut(rest, "\x00")
			if !ok {
				return "", api.ErrForm, 0
			}
			return s, api.OK, len(s) + 1
		},
	}}
	for _, n := range []int{0, 1, 2, 3, -1, math.MaxInt, math.MinInt, 1 << 62} {
		l = append(l, asked{
			"Wide",
			func(r *cells.Reader) (any, api.Errno) { n, e := r.Wide(n); return n, e },
			func(rest string) (any, api.Errno, int) { n, e, over := wantWide(rest, n); return n, e, over },
		})
	}
	return l
}

// P2.3: every call at every place that a few calls lead to; where it is refused nothing is passed over.
func TestReaderCalls(t *testing.T) {
	for _, v := range []string{
		"", "\x00", "a", "abc", "abc\x00", "abcd", "\x00\x00\x00\x01a\x00", "\x01\x02\x03\x04\x05\x06\x07\x08",
		"\xff\xff\xff\xff\xff\xff\xff\xff\xff\xff\xff\xff", "a\x00b\x00\x00c", "\xffé\x00\x80\x00\x00\x00\x00\x00\x00\x07",
	} {
		for _, first := range calls() {
			for _, second := range calls() {
				for _, third := range calls() {
					play(t, v, first, second, third)
				}
			}
		}
	}
}

// play asks a reader of v these things one behind the other.
func play(t *testing.T, v string, these ...asked) {
	t.Helper()
	r, rest := cells.New(v), v
	for i, a := range these {
		got, e := a.call(r)
		want, f, over := a.want(rest)
		rest = rest[over:]
		if got != want || e != f || r.Left() != len(rest) {
			t.Fatalf("%q, call %d, %s: %v, %d, and %d left; want %v, %d, and %d left", v, i, a.name, got, e, r.Left(), want, f, len(rest))
		}
	}
}

// P2.3: the highest cell stands ahead.
func TestWide(t *testing.T) {
	r := cells.New("\x80\x00\x00\x01\x00\x00\x00\x02\xff\xff\xff\xff")
	if n, e := r.Wide(2); n != 0x8000000100000002 || e != api.OK {
		t.Errorf("Wide(2): %x, %d", n, e)
	}
	if n, e := r.Wide(1); n != math.MaxUint32 || e != api.OK {
		t.Errorf("Wide(1): %x, %d", n, e)
	}
	if n, e := r.Wide(0); n != 0 || e != api.OK || r.Left() != 0 {
		t.Errorf("Wide(0) at the end: %x, %d", n, e)
	}
}

// P2.3, R1: a nil reader, and one that no call made.
func TestNilReader(t *testing.T) {
	var r *cells.Reader
	if n := r.Left(); n != 0 {
		t.Errorf("Left: %d", n)
	}
	if n, e := r.Cell(); n != 0 || e != api.ErrNil {
		t.Errorf("Cell: %d, %d", n, e)
	}
	for _, w := range []int{0, 1, 2, 3, -1} {
		if n, e := r.Wide(w); n != 0 || e != api.ErrNil {
			t.Errorf("Wide(%d): %d, %d", w, n, e)
		}
	}
	if s, e := r.Text(); s != "" || e != api.ErrNil {
		t.Errorf("Text: %q, %d", s, e)
	}
	bare := new(cells.Reader)
	bare.Cell()
	bare.Text()
	bare.Wide(2)
	bare.Left()
}

// R2: readers of one value do not see one another.
func TestTwoReaders(t *testing.T) {
	v := "\x00\x00\x00\x01\x00\x00\x00\x02"
	a, b := cells.New(v), cells.New(v)
	a.Cell()
	if n, e := b.Cell(); n != 1 || e != api.OK || a.Left() != 4 || b.Left() != 4 {
		t.Errorf("%d, %d, with %d and %d left", n, e, a.Left(), b.Left())
	}
	a.Wide(1)
	if n, e := b.Cell(); n != 2 || e != api.OK {
		t.Errorf("%d, %d", n, e)
	}
}

// P2.4: a reader that is asked till it refuses told the value's cells, or its texts.
func TestReaderTellsAll(t *testing.T) {
	many(func(v string) {
		if l, e := cells.U32s(v); e == api.OK {
			if got := told(cells.New(v), (*cells.Reader).Cell); !slices.Equal(got, l) {
				t.Fatalf("%q: the reader told %x, want %x", v, got, l)
			}
		}
		if l, e := cells.Texts(v); e == api.OK {
			if got := told(cells.New(v), (*cells.Reader).Text); !slices.Equal(got, l) {
				t.Fatalf("%q: the reader told %q, want %q", v, got, l)
			}
		}
	})
}

func told[T any](r *cells.Reader, next func(r *cells.Reader) (T, api.Errno)) []T {
	var l []T
	for {
		x, e := next(r)
		if e != api.OK {
			return l
		}
		l = append(l, x)
	}
}
