package words_test

import (
	"fmt"
	"slices"
	"strings"
	"testing"
	"unicode/utf8"

	"reveille/api"
	"reveille/words"
)

// shortestForm is a number's UTF-8 form, put together from its bits.
func shortestForm(n int) string {
	low := func(shift int) byte { return 0x80 | byte(n>>shift&0x3f) }
	switch {
	case n < 0x80:
		return string([]byte{byte(n)})
	case n < 0x800:
		return string([]byte{0xc0 | byte(n>>6), low(0)})
	case n < 0x10000:
		return string([]byte{0xe0 | byte(n>>12), low(6), low(0)})
	}
	return string([]byte{0xf0 | byte(n>>18), low(12), low(6), low(0)})
}

// numberOf is what the bits of some bytes would say, if they were one rune's form.
func numberOf(s string) int {
	if len(s) == 1 {
		return int(s[0])
	}
	n := int(s[0]) & (1<<(7-len(s)) - 1)
	for i := 1; i < len(s); i++ {
		n = n<<6 | int(s[i]&0x3f)
	}
	return n
}

// parted is a text as the chapter goes through it: what is taken, and the number of each (-1 of a break).
func parted(s string) (parts []string, numbers []int) {
next:
	for s != "" {
		for size := 1; size <= 4 && size <= len(s); size++ {
			n := numberOf(s[:size])
			if n <= 0x10ffff && (n < 0xd800 || n > 0xdfff) && shortestForm(n) == s[:size] {
				parts, numbers, s = append(parts, s[:size]), append(numbers, n), s[size:]
				continue next
			}
		}
		parts, numbers, s = append(parts, s[:1]), append(numbers, -1), s[1:]
	}
	return parts, numbers
}

// wantShown is a text as the chapter shows it, and its width.
func wantShown(s string) (string, int) {
	var b strings.Builder
	width := 0
	parts, numbers := parted(s)
	for i, p := range parts {
		n := numbers[i]
		switch {
		case n < 0x20 || n >= 0x7f && n <= 0x9f:
			for j := range len(p) {
				fmt.Fprintf(&b, "\\x%02x", p[j])
				width += 4
			}
		case p == "\\":
			b.WriteString("\\\\")
			width += 2
		default:
			b.WriteString(p)
			width++
		}
	}
	return b.String(), width
}

// texts goes through all texts of at most n bytes out of an alphabet.
func texts(alphabet string, n int, do func(s string)) {
	do("")
	if n == 0 {
		return
	}
	for i := range len(alphabet) {
		texts(alphabet, n-1, func(s string) { do(alphabet[i:i+1] + s) })
	}
}

// allBytes are the 256 bytes.
func allBytes() string {
	b := make([]byte, 256)
	for i := range b {
		b[i] = byte(i)
	}
	return string(b)
}

// The bytes at which the forms of runes part.
const edgeBytes = "\x1f \"\\ax\x7f\x80\x85\x8f\x90\x9f\xa0\xbd\xbf\xc1\xc2\xe0\xed\xef\xf0\xf4\xf5\xff"

// P1.2, P1.8: the chapter's own way over texts, held against Show and Width.
func TestShowTexts(t *testing.T) {
	look := func(s string) {
		shown, width := wantShown(s)
		if words.Show(s) != shown || words.Width(s) != width {
			t.Fatalf("%q: %q of width %d, want %q of width %d", s, words.Show(s), words.Width(s), shown, width)
		}
	}
	texts(allBytes(), 2, look)
	texts(edgeBytes, 4, look)
	for n := range 0x110000 {
		look("a" + shortestForm(n) + "b")
	}
	look(strings.Repeat("\xff\\é", 1<<12))
}

// P1.2: the chapter's examples, and the edges of what is hidden.
func TestShow(t *testing.T) {
	for _, x := range []struct {
		s, want string
		width   int
	}{
		{"", "", 0},
		{"a\xc3\xa9\xff\xc2\x85\\\x0a", `aé\xff\xc2\x85\\\x0a`, 20},
		{"\x1f ~\x7f", `\x1f ~\x7f`, 10},
		{"\xc2\x80\xc2\x9f\xc2\xa0", "\\xc2\\x80\\xc2\\x9f\u00a0", 17},
		{"\ufffd", "\ufffd", 1},
		{"\xef\xbf", `\xef\xbf`, 8},
		{"\xed\xa0\x80", `\xed\xa0\x80`, 12},
		{"\xc0\x80", `\xc0\x80`, 8},
		{"\xf4\x8f\xbf\xbf", "\U0010ffff", 1},
		{"\xf4\x90\x80\x80", `\xf4\x90\x80\x80`, 16},
		{"\"", "\"", 1},
		{"e\u0301", "e\u0301", 2},
	} {
		if got, width := words.Show(x.s), words.Width(x.s); got != x.want || width != x.width {
			t.Errorf("%q: %q of width %d, want %q of width %d", x.s, got, width, x.want, x.width)
		}
	}
}

// P1.7: unlike texts are shown unlike, and nothing hidden is in what is shown.
func TestShowUnlike(t *testing.T) {
	from := map[string]string{}
	look := func(s string) {
		shown := words.Show(s)
		if old, ok := from[shown]; ok && old != s {
			t.Fatalf("%q and %q are both shown as %q", old, s, shown)
		}
		from[shown] = s
		for _, r := range shown {
			if r < 0x20 || r >= 0x7f && r <= 0x9f {
				t.Fatalf("%q is shown with %x in it", s, r)
			}
		}
		if !utf8.ValidString(shown) {
			t.Fatalf("%q is shown with a break: %q", s, shown)
		}
	}
	texts(allBytes(), 2, look)
	texts(edgeBytes, 3, look)
	texts("\\x0f\xff", 6, look)
}

// P1.8: a width is the sum of the widths of what is taken.
func TestWidthSum(t *testing.T) {
	texts(edgeBytes, 3, func(s string) {
		sum := 0
		parts, _ := parted(s)
		for _, p := range parts {
			sum += words.Width(p)
		}
		if words.Width(s) != sum || words.Width(s) != utf8.RuneCountInString(words.Show(s)) {
			t.Fatalf("Width(%q): %d, its parts' %d", s, words.Width(s), sum)
		}
	})
}

// P1.2: the chapter's examples, the edges of the widths, and cuts in the midst of what is shown.
func TestFit(t *testing.T) {
	for _, x := range []struct {
		s     string
		width int
		want  string
		e     api.Errno
	}{
		{"abc", 5, "abc  ", api.OK},
		{"abc", 3, "abc", api.OK},
		{"abc", 2, "a~", api.OK},
		{"abc", 1, "~", api.OK},
		{"", 1, " ", api.OK},
		{"a", 1, "a", api.OK},
		{"é", 1, "é", api.OK},
		{"éèê", 2, "é~", api.OK},
		{"\ufffd\ufffd", 1, "~", api.OK},
		{"\ufffd\ufffd", 2, "\ufffd\ufffd", api.OK},
		{"\\", 1, "~", api.OK},
		{"\\", 2, `\\`, api.OK},
		{"a\\b", 3, `a\~`, api.OK},
		{"\xff", 3, `\x~`, api.OK},
		{"\xff", 4, `\xff`, api.OK},
		{"\xc2\x85", 7, `\xc2\x~`, api.OK},
		{"a~", 2, "a~", api.OK},
		{"", 4096, strings.Repeat(" ", 4096), api.OK},
		{strings.Repeat("é", 5000), 4096, strings.Repeat("é", 4095) + "~", api.OK},
		{"abc", 0, "", api.ErrArg},
		{"abc", -1, "", api.ErrArg},
		{"abc", 4097, "", api.ErrArg},
		{"", -1 << 63, "", api.ErrArg},
		{"", 1<<63 - 1, "", api.ErrArg},
	} {
		if got, e := words.Fit(x.s, x.width); got != x.want || e != x.e {
			t.Errorf("Fit(%q, %d): %q, %d, want %q, %d", x.s, x.width, got, e, x.want, x.e)
		}
	}
}

// P1.2, P1.8: Fit has just width runes, of what is shown, whatever the text.
func TestFitWidths(t *testing.T) {
	texts(edgeBytes, 3, func(s string) {
		shown := []rune(words.Show(s))
		for width := 1; width <= 14; width++ {
			want := string(shown) + strings.Repeat(" ", max(width-len(shown), 0))
			if len(shown) > width {
				want = string(shown[:width-1]) + "~"
			}
			got, e := words.Fit(s, width)
			if got != want || e != api.OK || utf8.RuneCountInString(got) != width {
				t.Fatalf("Fit(%q, %d): %q, %d, want %q", s, width, got, e, want)
			}
		}
	})
}

// P1.3: the chapter's examples, rows of all lengths, and blanks at a line's end, wherever they come from.
func TestColumns(t *testing.T) {
	for _, x := range []struct {
		rows   [][]string
		widths []int
		want   []string
	}{
		{[][]string{{"a", "bb"}, {"ccc"}}, []int{2, 3}, []string{"a  bb", "c~"}},
		{[][]string{nil, {}, {""}, {"", ""}, {"", "", ""}}, []int{1, 2, 3}, []string{"", "", "", "", ""}},
		{[][]string{{"", "x"}, {"x", ""}, {"  ", "y "}}, []int{3, 2}, []string{"    x", "x", "    y"}},
		{[][]string{{"a b ", " c  "}}, []int{4, 4}, []string{"a b   c"}},
		{[][]string{{"\n", "é", "\u00a0"}}, []int{4, 1, 1}, []string{"\\x0a é \u00a0"}},
		{[][]string{nil, nil}, nil, []string{"", ""}},
		{nil, []int{1, 4096}, nil},
		{nil, nil, nil},
	} {
		got, e := words.Columns(x.rows, x.widths)
		if !slices.Equal(got, x.want) || e != api.OK {
			t.Errorf("Columns(%q, %d): %q, %d, want %q", x.rows, x.widths, got, e, x.want)
		}
	}
}

// P1.3: what may not be, and the greatest that may.
func TestColumnsRefused(t *testing.T) {
	many := func(n int) []int { return slices.Repeat([]int{1}, n) }
	row := func(n int) []string { return slices.Repeat([]string{"x"}, n) }
	for _, x := range []struct {
		rows   [][]string
		widths []int
		e      api.Errno
	}{
		{[][]string{row(64)}, many(64), api.OK},
		{[][]string{row(64)}, many(65), api.ErrArg},
		{nil, many(65), api.ErrArg},
		{[][]string{row(65)}, many(64), api.ErrArg},
		{[][]string{row(2)}, many(1), api.ErrArg},
		{[][]string{row(1), row(1), row(2)}, many(1), api.ErrArg},
		{[][]string{row(1)}, nil, api.ErrArg},
		{[][]string{row(1)}, []int{1, 0}, api.ErrArg},
		{nil, []int{-1}, api.ErrArg},
		{nil, []int{1, 4097}, api.ErrArg},
		{nil, []int{4096}, api.OK},
	} {
		got, e := words.Columns(x.rows, x.widths)
		if e != x.e || e != api.OK && len(got) != 0 {
			t.Errorf("Columns(%q, %d): %q, %d, want %d", x.rows, x.widths, got, e, x.e)
		}
	}
	got, _ := words.Columns([][]string{row(64)}, many(64))
	if want := strings.TrimSuffix(strings.Repeat("x ", 64), " "); len(got) != 1 || got[0] != want {
		t.Errorf("64 columns: %q", got)
	}
}

// P1.8: what fits stands where the widths say.
func TestColumnsParted(t *testing.T) {
	widths := []int{4, 9, 2, 5}
	rows := [][]string{{"a", "\xff\n", "", "é"}, {"", "b c", "\\", "12345"}, {"abcd", "\ufffd", "~", "\x00"}, {"x"}}
	lines, e := words.Columns(rows, widths)
	if e != api.OK || len(lines) != len(rows) {
		t.Fatalf("%q, %d", lines, e)
	}
	for i, line := range lines {
		r := []rune(line + strings.Repeat(" ", 30))
		for j, s := range rows[i] {
			if got := strings.TrimRight(string(r[:widths[j]]), " "); got != words.Show(s) {
				t.Errorf("row %d, thing %d: %q, want %q", i, j, got, words.Show(s))
			}
			r = r[widths[j]+1:]
		}
	}
}

// R3: what is handed in stays, with the room behind its end; what is handed out is new.
func TestColumnsMemory(t *testing.T) {
	backs := []string{"a", "b", "c"}
	widths := []int{1, 1, 7}
	first, _ := words.Columns([][]string{backs[:2]}, widths[:2])
	first = append(first[:1], "spoilt")
	first[0] = "spoilt"
	second, e := words.Columns([][]string{backs[:2]}, widths[:2])
	if e != api.OK || !slices.Equal(second, []string{"a b"}) {
		t.Errorf("the second answer: %q, %d", second, e)
	}
	if !slices.Equal(backs, []string{"a", "b", "c"}) || !slices.Equal(widths, []int{1, 1, 7}) {
		t.Errorf("the arguments have changed: %q, %d", backs, widths)
	}
}
