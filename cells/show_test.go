package cells_test

import (
	"encoding/hex"
	"fmt"
	"regexp"
	"strings"
	"testing"

	"reveille/api"
	"reveille/cells"
)

// What a value of texts is, by its bytes.
var textsForm = regexp.MustCompile(`^([ -~]+\x00)+$`)

// wantLook is what a value looks like.
func wantLook(v string) uint8 {
	switch {
	case v == "":
		return 0
	case textsForm.MatchString(v):
		return 1
	case len(v)%4 == 0:
		return 2
	}
	return 3
}

// wantShown is a value as the chapter shows it.
func wantShown(v string) string {
	var parts []string
	switch wantLook(v) {
	case 0:
		return "-"
	case 1:
		for _, s := range strings.Split(strings.TrimSuffix(v, "\x00"), "\x00") {
			parts = append(parts, `"`+strings.NewReplacer(`"`, `\"`, `\`, `\\`).Replace(s)+`"`)
		}
		return strings.Join(parts, ", ")
	case 2:
		for i := 0; i < len(v); i += 4 {
			parts = append(parts, fmt.Sprintf("0x%x", uint32(v[i])<<24|uint32(v[i+1])<<16|uint32(v[i+2])<<8|uint32(v[i+3])))
		}
		return "<" + strings.Join(parts, " ") + ">"
	}
	return fmt.Sprintf("[% x]", v)
}

// The forms that a text can be shown in; a value that looks otherwise has none of its own form.
var (
	shownTexts = regexp.MustCompile(`^"([ !#-\[\]-~]|\\["\\])+"(, "([ !#-\[\]-~]|\\["\\])+")*$`)
	shownCells = regexp.MustCompile(`^<0x(0|[1-9a-f][0-9a-f]{0,7})( 0x(0|[1-9a-f][0-9a-f]{0,7}))*>$`)
	shownBytes = regexp.MustCompile(`^\[[0-9a-f]{2}( [0-9a-f]{2})*\]$`)
)

// wantParsed is the value whose Show a text is, read by the forms.
func wantParsed(s string) (string, api.Errno) {
	v, look := "", uint8(0)
	switch {
	case s == "-":
		return "", api.OK
	case shownTexts.MatchString(s):
		look = 1
		for _, q := range regexp.MustCompile(`"(\\.|[^"\\])*"`).FindAllString(s, -1) {
			v += strings.NewReplacer(`\"`, `"`, `\\`, `\`).Replace(q[1:len(q)-1]) + "\x00"
		}
	case shownCells.MatchString(s):
		look = 2
		for _, n := range strings.Split(s[1:len(s)-1], " ") {
			b, _ := hex.DecodeString(strings.Repeat("0", 10-len(n)) + n[2:])
			v += string(b)
		}
	case shownBytes.MatchString(s):
		look = 3
		b, _ := hex.DecodeString(strings.ReplaceAll(s[1:len(s)-1], " ", ""))
		v = string(b)
	default:
		return "", api.ErrForm
	}
	if wantLook(v) != look {
		return "", api.ErrForm
	}
	return v, api.OK
}

// P2.2: what each value looks like, and how it is shown; P2.4: Parse of Show is the value, unlike values are shown unlike.
func TestShowValues(t *testing.T) {
	from := map[string]string{}
	many(func(v string) {
		if look := cells.Look(v); look != wantLook(v) {
			t.Fatalf("Look(%q): %d, want %d", v, look, wantLook(v))
		}
		shown := cells.Show(v)
		if shown != wantShown(v) {
			t.Fatalf("Show(%q): %s, want %s", v, shown, wantShown(v))
		}
		if old, ok := from[shown]; ok && old != v {
			t.Fatalf("%q and %q are both shown as %s", old, v, shown)
		}
		from[shown] = v
		if got, e := cells.Parse(shown); got != v || e != api.OK {
			t.Fatalf("Parse(%s): %q, %d, want %q", shown, got, e, v)
		}
	})
}

// P2.2: the chapter's examples, and the edges of what looks like texts, cells, bytes.
func TestShow(t *testing.T) {
	for _, x := range []struct {
		v    string
		look uint8
		want string
	}{
		{"", 0, "-"},
		{"ab\x00c\x00", 1, `"ab", "c"`},
		{"a\"b\x00", 1, `"a\"b"`},
		{"a\\b\x00", 1, `"a\\b"`},
		{"\\\"\x00\"\\\x00", 1, `"\\\"", "\"\\"`},
		{"abc\x00", 1, `"abc"`},
		{"-\x00", 1, `"-"`},
		{"a, b\x00", 1, `"a, b"`},
		{" \x00", 1, `" "`},
		{" ~\x00", 1, `" ~"`},
		{"\x1f\x00", 3, "[1f 00]"},
		{"\x7f\x00", 3, "[7f 00]"},
		{"é\x00", 3, "[c3 a9 00]"},
		{"a\nb\x00", 2, "<0x610a6200>"},
		{"\x00", 3, "[00]"},
		{"\x00\x00", 3, "[00 00]"},
		{"a\x00\x00", 3, "[61 00 00]"},
		{"\x00a\x00", 3, "[00 61 00]"},
		{"ab\x00\x00", 2, "<0x61620000>"},
		{"\x00ab\x00", 2, "<0x616200>"},
		{"abc", 3, "[61 62 63]"},
		{"abcd", 2, "<0x61626364>"},
		{"abcde", 3, "[61 62 63 64 65]"},
		{"\x00\x00\x00\x00", 2, "<0x0>"},
		{"\x00\x00\x00\x01", 2, "<0x1>"},
		{"\xff\xff\xff\xff\x00\x00\x00\x0a", 2, "<0xffffffff 0xa>"},
		{"\x00\xff\x0a", 3, "[00 ff 0a]"},
	} {
		if look := cells.Look(x.v); look != x.look {
			t.Errorf("Look(%q): %d, want %d", x.v, look, x.look)
		}
		if s := cells.Show(x.v); s != x.want {
			t.Errorf("Show(%q): %s, want %s", x.v, s, x.want)
		}
		if v, e := cells.Parse(x.want); v != x.v || e != api.OK {
			t.Errorf("Parse(%s): %q, %d, want %q", x.want, v, e, x.v)
		}
	}
}

// P2.2: texts that show no value.
func TestParseRefused(t *testing.T) {
	for _, s := range []string{
		"", " ", "--", "- ", " -", "a", "abc", "0x1", "61",
		`"`, `""`, `"a`, `a"`, `"a" , "b"`, `"a","b"`, `"a",  "b"`, `"a", `, `"a",`, `"a", "`, `"a", ""`, `"", "a"`, `"a" "b"`, `"a""b"`,
		`"a"b`, ` "a"`, `"a" `, `"\a"`, `"a\"`, `"a\`, `"\`, `"a\\\"`, `"a"b"`, `"\x41"`, "\"a\x00b\"", "\"a\x1f\"", "\"a\x7f\"", "\"a\nb\"", `"é"`, "\"\xff\"",
		"<", ">", "<>", "< >", "<<0x1>", "<0x1>>", "<0x1", "0x1>", "<0x1]", "<1>", "<0x>", "<x1>", "<0X1>", "<0x01>", "<0x00>", "<0xA>", "<0xg>", "<0x-1>", "<-0x1>", "<+0x1>", "<0x+1>",
		"<0x1_0>", "<0x100000000>", "<0xffffffffffffffff0>", "<0x1  0x2>", "< 0x1>", "<0x1 >", "<0x1,0x2>", "<0x1, 0x2>", "<0x1\t0x2>", "<0x1> ", " <0x1>", "<0x1><0x2>", "<0x0x1>",
		"<0x61626300>", "<0x61620063 0x20007e00>",
		"[", "]", "[]", "[ ]", "[[00]", "[00]]", "[00", "00]", "[00>", "[0]", "[000]", "[0x0]", "[0x00]", "[A0 00]", "[0G]", "[-1]", "[+1]", "[100]", "[00  00]", "[ 00]", "[00 ]",
		"[00,00]", "[0000]", "[00] ", " [00]", "[61 00]", "[61 62 63 00]", "[00 00 00 01]", "[ff ff ff ff]", "[00 00 00 00 00 00 00 00]",
	} {
		if v, e := cells.Parse(s); v != "" || e != api.ErrForm {
			t.Errorf("Parse(%q): %q, %d", s, v, e)
		}
	}
}

// parseAsTold holds Parse against the forms; P2.4: Show of what it tells is the text.
func parseAsTold(t *testing.T, s string) {
	t.Helper()
	want, e := wantParsed(s)
	got, f := cells.Parse(s)
	if got != want || f != e {
		t.Fatalf("Parse(%q): %q, %d, want %q, %d", s, got, f, want, e)
	}
	if f == api.OK && cells.Show(got) != s {
		t.Fatalf("%q is parsed as %q, which is shown as %q", s, got, cells.Show(got))
	}
}

// P2.2: all short texts out of the bytes that values are shown by, and of others.
func TestParseTexts(t *testing.T) {
	look := func(s string) { parseAsTold(t, s) }
	values(allBytes(), 2, look)
	values("\"\\, a-", 7, look)
	values("01a [", 4, func(s string) {
		look("<" + s + ">")
		look("[" + s + "]")
		look("<0x" + s + ">")
		look("<0x" + s + " 0x1>")
		look("<0x1 0x" + s + ">")
		look("[00 " + s + "]")
		look("[" + s + " 00]")
		look(`"` + s + `"`)
	})
	values("<>[] 0x", 6, look)
}

// P2.2: whatever is shown, with a byte taken out, put in or changed.
func TestParseChanged(t *testing.T) {
	const others = "\"\\, <>[]-01aAfx\x00\x7fé"
	values("\x00\x01 a\"\\\xff", 4, func(v string) {
		s := cells.Show(v)
		for i := range len(s) + 1 {
			for j := range len(others) {
				parseAsTold(t, s[:i]+others[j:j+1]+s[i:])
			}
			if i == len(s) {
				break
			}
			parseAsTold(t, s[:i]+s[i+1:])
			parseAsTold(t, s[:i])
			for j := range len(others) {
				parseAsTold(t, s[:i]+others[j:j+1]+s[i+1:])
			}
		}
	})
}

// P2.2, P2.4: long values.
func TestShowLong(t *testing.T) {
	for _, v := range []string{
		strings.Repeat("\"", 1<<16) + "\x00",
		strings.Repeat("a\x00", 1<<16),
		strings.Repeat("\x00", 1<<16),
		strings.Repeat("\xff", 1<<16+1),
	} {
		if got, e := cells.Parse(cells.Show(v)); got != v || e != api.OK || cells.Show(v) != wantShown(v) {
			t.Errorf("a value of %d bytes did not come back: %d", len(v), e)
		}
	}
}
