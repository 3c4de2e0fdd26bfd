package cells_test

import (
	"encoding/binary"
	"math"
	"slices"
	"strings"
	"testing"

	"reveille/api"
	"reveille/cells"
)

// values goes through all values of at most n bytes out of an alphabet.
func values(alphabet string, n int, do func(v string)) {
	do("")
	if n == 0 {
		return
	}
	for i := range len(alphabet) {
		values(alphabet, n-1, func(v string) { do(alphabet[i:i+1] + v) })
	}
}

// allBytes are the 256 bytes.
func allBytes() string {
	b := make([]byte, 256)
	for i := range b {
		b[i] = byte(i)
	}
	return string(b)
}

// The bytes at which what is told of a value parts.
const edgeBytes = "\x00\x01\x1f \"\\a~\x7f\x80\xff"

// many goes through values short and long, of all lengths and bytes.
func many(do func(v string)) {
	values(allBytes(), 2, do)
	values(edgeBytes, 5, do)
	values("\x00a", 13, do)
	for n := range 70 {
		do(allBytes()[256-n:])
		do(strings.Repeat("\xff", n))
		do(strings.Repeat("\x00", n))
		do(strings.Repeat("ab\x00", n))
	}
	do(strings.Repeat(allBytes(), 64))
}

// P2.1: the cells of a value, held against the library's.
func TestU32s(t *testing.T) {
	many(func(v string) {
		var want []uint32
		e := api.ErrForm
		if len(v)%4 == 0 {
			for i := 0; i < len(v); i += 4 {
				want = append(want, binary.BigEndian.Uint32([]byte(v[i:i+4])))
			}
			e = api.OK
		}
		if got, f := cells.U32s(v); !slices.Equal(got, want) || f != e {
			t.Fatalf("U32s(%q): %x, %d, want %x, %d", v, got, f, want, e)
		}
	})
}

// P2.1: the pairs of a value, held against the library's.
func TestU64s(t *testing.T) {
	many(func(v string) {
		var want []uint64
		e := api.ErrForm
		if len(v)%8 == 0 {
			for i := 0; i < len(v); i += 8 {
				want = append(want, binary.BigEndian.Uint64([]byte(v[i:i+8])))
			}
			e = api.OK
		}
		if got, f := cells.U64s(v); !slices.Equal(got, want) || f != e {
			t.Fatalf("U64s(%q): %x, %d, want %x, %d", v, got, f, want, e)
		}
	})
}

// P2.1: the chapter's examples of numbers, and the edges of their widths.
func TestNumberExamples(t *testing.T) {
	v := "\x00\x00\x00\x01\xff\xff\xff\xff"
	if l, e := cells.U32s(v); !slices.Equal(l, []uint32{1, 4294967295}) || e != api.OK {
		t.Errorf("U32s: %d, %d", l, e)
	}
	if l, e := cells.U64s(v); !slices.Equal(l, []uint64{8589934591}) || e != api.OK {
		t.Errorf("U64s: %d, %d", l, e)
	}
	for _, n := range []int{1, 2, 3, 5, 6, 7} {
		if l, e := cells.U32s(v[:n]); len(l) != 0 || e != api.ErrForm {
			t.Errorf("U32s of %d bytes: %d, %d", n, l, e)
		}
	}
	for _, n := range []int{1, 4, 7} {
		if l, e := cells.U64s(v + v[:n]); len(l) != 0 || e != api.ErrForm {
			t.Errorf("U64s of %d bytes: %d, %d", 8+n, l, e)
		}
	}
}

// P2.1: the value of some cells, of some pairs.
func TestOfNumbers(t *testing.T) {
	for _, x := range []struct {
		l    []uint32
		want string
	}{
		{nil, ""},
		{[]uint32{}, ""},
		{[]uint32{0}, "\x00\x00\x00\x00"},
		{[]uint32{1}, "\x00\x00\x00\x01"},
		{[]uint32{0x01020304, math.MaxUint32}, "\x01\x02\x03\x04\xff\xff\xff\xff"},
		{[]uint32{0x80000000, 0x7fffffff}, "\x80\x00\x00\x00\x7f\xff\xff\xff"},
	} {
		if got := cells.OfU32s(x.l); got != x.want {
			t.Errorf("OfU32s(%x): %q, want %q", x.l, got, x.want)
		}
	}
	for _, x := range []struct {
		l    []uint64
		want string
	}{
		{nil, ""},
		{[]uint64{}, ""},
		{[]uint64{0}, "\x00\x00\x00\x00\x00\x00\x00\x00"},
		{[]uint64{8589934591}, "\x00\x00\x00\x01\xff\xff\xff\xff"},
		{[]uint64{0x0102030405060708, math.MaxUint64}, "\x01\x02\x03\x04\x05\x06\x07\x08\xff\xff\xff\xff\xff\xff\xff\xff"},
		{[]uint64{1 << 63, 1 << 32}, "\x80\x00\x00\x00\x00\x00\x00\x00\x00\x00\x00\x01\x00\x00\x00\x00"},
	} {
		if got := cells.OfU64s(x.l); got != x.want {
			t.Errorf("OfU64s(%x): %q, want %q", x.l, got, x.want)
		}
	}
}

// P2.1: the texts of a value, held against its parts between the bytes 00.
func TestTexts(t *testing.T) {
	many(func(v string) {
		parts := strings.Split(v, "\x00")
		last := parts[len(parts)-1]
		want, e := parts[:len(parts)-1], api.OK
		if last != "" {
			want, e = nil, api.ErrForm
		}
		if got, f := cells.Texts(v); !slices.Equal(got, want) || f != e {
			t.Fatalf("Texts(%q): %q, %d, want %q, %d", v, got, f, want, e)
		}
	})
}

// P2.1: the chapter's texts, empty ones, and those that are none.
func TestTextsExamples(t *testing.T) {
	for _, x := range []struct {
		v    string
		want []string
		e    api.Errno
	}{
		{"", nil, api.OK},
		{"\x00", []string{""}, api.OK},
		{"\x00\x00", []string{"", ""}, api.OK},
		{"ab\x00c\x00", []string{"ab", "c"}, api.OK},
		{"\x00a\x00\x00", []string{"", "a", ""}, api.OK},
		{"\xff\n\x00", []string{"\xff\n"}, api.OK},
		{"ab", nil, api.ErrForm},
		{"ab\x00c", nil, api.ErrForm},
		{"\x00c", nil, api.ErrForm},
	} {
		if got, e := cells.Texts(x.v); !slices.Equal(got, x.want) || e != x.e {
			t.Errorf("Texts(%q): %q, %d, want %q, %d", x.v, got, e, x.want, x.e)
		}
	}
}

// P2.1: the value of some texts; none has a byte 00.
func TestOfTexts(t *testing.T) {
	for _, x := range []struct {
		l    []string
		want string
		e    api.Errno
	}{
		{nil, "", api.OK},
		{[]string{}, "", api.OK},
		{[]string{""}, "\x00", api.OK},
		{[]string{"", ""}, "\x00\x00", api.OK},
		{[]string{"ab", "c"}, "ab\x00c\x00", api.OK},
		{[]string{"\xff", "", "é"}, "\xff\x00\x00é\x00", api.OK},
		{[]string{"a\x00b"}, "", api.ErrForm},
		{[]string{"\x00"}, "", api.ErrForm},
		{[]string{"a", "b\x00"}, "", api.ErrForm},
		{[]string{"\x00a", "b"}, "", api.ErrForm},
	} {
		if got, e := cells.OfTexts(x.l); got != x.want || e != x.e {
			t.Errorf("OfTexts(%q): %q, %d, want %q, %d", x.l, got, e, x.want, x.e)
		}
	}
}

// P2.1: the only cell, the only text, of each value.
func TestOnly(t *testing.T) {
	many(func(v string) {
		wantN, e := uint32(0), api.ErrForm
		if len(v) == 4 {
			wantN, e = binary.BigEndian.Uint32([]byte(v)), api.OK
		}
		if n, f := cells.One(v); n != wantN || f != e {
			t.Fatalf("One(%q): %x, %d, want %x, %d", v, n, f, wantN, e)
		}
		wantS, e := "", api.ErrForm
		if strings.Count(v, "\x00") == 1 && strings.HasSuffix(v, "\x00") {
			wantS, e = strings.TrimSuffix(v, "\x00"), api.OK
		}
		if s, f := cells.Text(v); s != wantS || f != e {
			t.Fatalf("Text(%q): %q, %d, want %q, %d", v, s, f, wantS, e)
		}
	})
}

// P2.1: the chapter's examples of one, and what is none or more than one.
func TestOnlyExamples(t *testing.T) {
	if n, e := cells.One("\x00\x00\x01\x00"); n != 256 || e != api.OK {
		t.Errorf("One: %d, %d", n, e)
	}
	for _, v := range []string{"", "\x00\x00\x01", "\x00\x00\x01\x00\x00", "\x00\x00\x00\x01\x00\x00\x00\x02"} {
		if n, e := cells.One(v); n != 0 || e != api.ErrForm {
			t.Errorf("One(%q): %d, %d", v, n, e)
		}
	}
	if s, e := cells.Text("okay\x00"); s != "okay" || e != api.OK {
		t.Errorf("Text: %q, %d", s, e)
	}
	if s, e := cells.Text("\x00"); s != "" || e != api.OK {
		t.Errorf("Text of an empty one: %q, %d", s, e)
	}
	for _, v := range []string{"", "okay", "okay\x00\x00", "a\x00b\x00", "a\x00b", "\x00a"} {
		if s, e := cells.Text(v); s != "" || e != api.ErrForm {
			t.Errorf("Text(%q): %q, %d", v, s, e)
		}
	}
}

// P2.4: from a value and back, where it has cells, pairs, texts.
func TestValueThereAndBack(t *testing.T) {
	many(func(v string) {
		if l, e := cells.U32s(v); e == api.OK && cells.OfU32s(l) != v {
			t.Fatalf("%q: the cells %x are of %q", v, l, cells.OfU32s(l))
		}
		if l, e := cells.U64s(v); e == api.OK && cells.OfU64s(l) != v {
			t.Fatalf("%q: the pairs %x are of %q", v, l, cells.OfU64s(l))
		}
		l, e := cells.Texts(v)
		if e != api.OK {
			return
		}
		if got, f := cells.OfTexts(l); got != v || f != api.OK {
			t.Fatalf("%q: the texts %q are of %q, %d", v, l, got, f)
		}
	})
}

// P2.4: from lists and back.
func TestListThereAndBack(t *testing.T) {
	var narrow []uint32
	var wide []uint64
	var texts []string
	look := func() {
		a, e := cells.U32s(cells.OfU32s(narrow))
		b, f := cells.U64s(cells.OfU64s(wide))
		v, g := cells.OfTexts(texts)
		c, h := cells.Texts(v)
		if !slices.Equal(a, narrow) || !slices.Equal(b, wide) || !slices.Equal(c, texts) || e|f|g|h != api.OK {
			t.Fatalf("%x %x %q came back as %x %x %q: %d %d %d %d", narrow, wide, texts, a, b, c, e, f, g, h)
		}
	}
	look()
	for i := range 64 {
		for _, n := range []uint64{1 << i, 1<<i - 1, ^uint64(1 << i), 0x9e3779b97f4a7c15 * uint64(i)} {
			narrow = append(narrow, uint32(n))
			wide = append(wide, n)
			texts = append(texts, strings.Repeat("\xfe", i%3)+strings.ReplaceAll(cells.OfU64s([]uint64{n}), "\x00", ""))
			look()
		}
	}
}

// R3: what is handed in stays, with the room behind its end; what is handed out is new.
func TestMemory(t *testing.T) {
	narrow, wide, texts := []uint32{1, 2, 3}, []uint64{4, 5, 6}, []string{"a", "b", "c"}
	cells.OfU32s(narrow[:2])
	cells.OfU64s(wide[:2])
	if v, e := cells.OfTexts(texts[:2]); v != "a\x00b\x00" || e != api.OK {
		t.Errorf("OfTexts read beyond the end: %q, %d", v, e)
	}
	if !slices.Equal(narrow, []uint32{1, 2, 3}) || !slices.Equal(wide, []uint64{4, 5, 6}) || !slices.Equal(texts, []string{"a", "b", "c"}) {
		t.Errorf("the arguments have changed: %d %d %q", narrow, wide, texts)
	}
	v := "abc\x00def\x00"
	spoil := func() {
		a, _ := cells.U32s(v)
		b, _ := cells.U64s(v)
		c, _ := cells.Texts(v)
		clear(a[:cap(a)])
		clear(b[:cap(b)])
		clear(c[:cap(c)])
	}
	spoil()
	a, _ := cells.U32s(v)
	b, _ := cells.U64s(v)
	c, _ := cells.Texts(v)
	if !slices.Equal(a, []uint32{0x61626300, 0x64656600}) || !slices.Equal(b, []uint64{0x6162630064656600}) || !slices.Equal(c, []string{"abc", "def"}) {
		t.Errorf("the second answers: %x %x %q", a, b, c)
	}
}
