package words_test

import (
	"slices"
	"strings"
	"testing"

	"reveille/api"
	"reveille/words"
)

// P1.4: quotes.
func TestQuote(t *testing.T) {
	for s, want := range map[string]string{
		"":            `""`,
		"a":           `"a"`,
		"b c":         `"b c"`,
		"d\"":         `"d\""`,
		"\\":          `"\\"`,
		"\\\"":        `"\\\""`,
		"é\xff\n\x7f": `"é\xff\x0a\x7f"`,
		"\\x41":       `"\\x41"`,
		"\xc2\x80":    `"\xc2\x80"`,
	} {
		if got := words.Quote(s); got != want {
			t.Errorf("Quote(%q): %s, want %s", s, got, want)
		}
	}
}

// P1.4: lines, and back (P1.7); which words need quotes.
func TestLine(t *testing.T) {
	for _, x := range []struct {
		l    []string
		want string
	}{
		{nil, ""},
		{[]string{""}, `""`},
		{[]string{"", ""}, `"" ""`},
		{[]string{"a"}, "a"},
		{[]string{"a", "", "b c", "d\""}, `a "" "b c" "d\""`},
		{[]string{"!", "~", "}"}, "! ~ }"},
		{[]string{" ", "\x7f", "é", "\\"}, `" " "\x7f" "é" "\\"`},
		{[]string{"a\"b", "a\\b", "\xff", "\x00"}, `"a\"b" "a\\b" "\xff" "\x00"`},
		{[]string{"<0x1", "[00", "/osc"}, "<0x1 [00 /osc"},
	} {
		if got := words.Line(x.l); got != x.want {
			t.Errorf("Line(%q): %s, want %s", x.l, got, x.want)
		}
		if got, e := words.Fields(x.want); !slices.Equal(got, x.l) || e != api.OK {
			t.Errorf("Fields(%s): %q, %d, want %q", x.want, got, e, x.l)
		}
	}
}

// P1.4: which texts of one byte are plain words.
func TestPlainWords(t *testing.T) {
	for c := range 256 {
		s := string([]byte{byte(c)})
		plain := c >= 0x21 && c <= 0x7e && c != '"' && c != '\\'
		if got := words.Line([]string{s}); (got == s) != plain || !plain && got != words.Quote(s) {
			t.Errorf("Line(%q): %s", s, got)
		}
	}
}

// P1.4: lines that are nobody's.
func TestFieldsRefused(t *testing.T) {
	for _, line := range []string{
		" ", "a  b", " a", "a ", "\"\" ", "  ",
		`"a"`, `"a" b`, `a"b`, `a"`, `b "a"`,
		`"`, `" "x`, `" `, `"" ""x`, `""""`, `"\`, `"\"`, `" \`,
		`\`, `a\b`, `\x41`, `\\`,
		`"\x"`, `"\x0"`, `"\x0g"`, `"\x0A"`, `"\xFF"`, `"\x41"`, `"\x 1"`, `"\x+1"`, `"\x20"`, `"\x5c"`, `"\x22"`,
		`" \a"`, `" \n"`, `" \ "`, `"\xc3\xa9"`, `"\xef\xbf\xbd"`,
		"é", "a\tb", "\t", "\n", "\x7f", "\xff", "\"\xff\"", "\"\n\"", "\" \x7f\"", "\"\u0085\"", "\u00a0",
		"a\x00", "\x00",
	} {
		if l, e := words.Fields(line); e != api.ErrForm || len(l) != 0 {
			t.Errorf("Fields(%q): %q, %d", line, l, e)
		}
	}
}

// P1.4, P1.7: whatever the line: its words' line is it, or it is refused.
func TestFieldsTexts(t *testing.T) {
	look := func(line string) {
		l, e := words.Fields(line)
		switch {
		case e == api.OK && words.Line(l) == line:
		case e == api.ErrForm && len(l) == 0:
		default:
			t.Fatalf("Fields(%q): %q, %d", line, l, e)
		}
	}
	texts("a \"\\x0f\xff\n", 6, look)
	texts(edgeBytes, 3, func(s string) { look("\"" + s + "\"") })
	for _, word := range []string{"\xc3", "\xa9", "\xef\xbf\xbd", "a", "\x1f", "\xc2\x9f"} {
		texts(edgeBytes, 2, func(s string) { look(words.Quote(word) + s) })
	}
}

// P1.7: Fields of Line are the words.
func TestLineThereAndBack(t *testing.T) {
	look := func(l ...string) {
		got, e := words.Fields(words.Line(l))
		if e != api.OK || !slices.Equal(got, l) {
			t.Fatalf("%q: Fields(%q): %q, %d", l, words.Line(l), got, e)
		}
	}
	texts(allBytes(), 2, func(s string) { look(s) })
	texts(edgeBytes, 3, func(s string) { look("a", s, s+"b", "") })
	texts("a \"\\x", 3, func(s string) {
		texts("a \"\\\xff", 2, func(u string) { look(s, u) })
	})
	look(slices.Repeat([]string{"", "a", " "}, 1000)...)
	look(strings.Repeat("\\\"\xff ", 1<<12))
}

// R3: what Line is handed stays, what Fields hands out is new.
func TestLineMemory(t *testing.T) {
	l := []string{"a", "b c", "left"}
	words.Line(l[:2])
	if !slices.Equal(l, []string{"a", "b c", "left"}) {
		t.Errorf("the argument has changed: %q", l)
	}
	first, _ := words.Fields("a b")
	first[0] = "spoilt"
	if second, e := words.Fields("a b"); e != api.OK || !slices.Equal(second, []string{"a", "b"}) {
		t.Errorf("the second answer: %q, %d", second, e)
	}
}
