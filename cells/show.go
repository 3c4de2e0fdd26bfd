package cells

import (
	"strconv"
	"strings"

	"reveille/api"
)

// What a value looks like.
const (
	looksEmpty uint8 = iota
	looksTexts
	looksCells
	looksBytes
)

// Look is what a value looks like.
func Look(v string) uint8 {
	switch {
	case v == "":
		return looksEmpty
	case areTexts(v):
		return looksTexts
	case len(v)%cellBytes == 0:
		return looksCells
	}
	return looksBytes
}

// areTexts says whether a value has texts, none of them empty, of bytes that can be shown as they are.
func areTexts(v string) bool {
	// The front counts as the end of a text, so that a 00 there ends an empty one as well.
	last := byte(0)
	for i := range len(v) {
		c := v[i]
		if c == 0 && last == 0 {
			return false
		}
		if c != 0 && (c < 0x20 || c > 0x7e) {
			return false
		}
		last = c
	}
	return last == 0
}

// Show is a value as a text.
func Show(v string) string {
	switch Look(v) {
	case looksEmpty:
		return "-"
	case looksTexts:
		l, _ := Texts(v)
		return listed(l, ", ", writeText)
	case looksCells:
		l, _ := U32s(v)
		return "<" + listed(l, " ", writeCell) + ">"
	}
	return "[" + listed([]byte(v), " ", writeByte) + "]"
}

// listed is what is written of some things, with a text between each two.
func listed[T any](l []T, between string, write func(b *strings.Builder, x T)) string {
	var b strings.Builder
	for i, x := range l {
		if i > 0 {
			b.WriteString(between)
		}
		write(&b, x)
	}
	return b.String()
}

// writeText writes a text in quotes. It looks like a text, so each rune of it is one byte.
func writeText(b *strings.Builder, s string) {
	b.WriteByte('"')
	for _, r := range s {
		if r == '"' || r == '\\' {
			b.WriteByte('\\')
		}
		b.WriteByte(byte(r))
	}
	b.WriteByte('"')
}

func writeCell(b *strings.Builder, n uint32) {
	b.WriteString("0x")
	b.WriteString(strconv.FormatUint(uint64(n), 16))
}

func writeByte(b *strings.Builder, c byte) {
	const digits = "0123456789abcdef"
	b.WriteByte(digits[c>>4])
	b.WriteByte(digits[c&15])
}

// Parse is the value whose text it is. Unlike values are shown unlike, so it is enough to show again what was read: whatever else could be read so is refused by that.
func Parse(s string) (string, api.Errno) {
	v, ok := read(s)
	if !ok || Show(v) != s {
		return "", api.ErrForm
	}
	return v, api.OK
}

// read is the value that a text shows, if it shows one; of any other text it is some value, or none.
func read(s string) (string, bool) {
	switch {
	case s == "-":
		return "", true
	case strings.HasPrefix(s, `"`):
		return readTexts(s), true
	case strings.HasPrefix(s, "<"):
		return readNumbers(strings.Trim(s, "<>"), cellBits, appendCell)
	case strings.HasPrefix(s, "["):
		return readNumbers(strings.Trim(s, "[]"), 8, appendByte)
	}
	return "", false
}

// readTexts is the value of what stands in quotes; what is between two of them is passed over.
func readTexts(s string) string {
	var v []byte
	inside := false
	for i := 0; i < len(s); i++ {
		switch c := s[i]; {
		case !inside:
			inside = c == '"'
		case c == '"':
			v = append(v, 0)
			inside = false
		case c == '\\' && i+1 < len(s):
			i++
			v = append(v, s[i])
		default:
			v = append(v, c)
		}
	}
	return string(v)
}

// readNumbers is the value of numbers in base 16, of so many bits each, which are laid behind one another.
func readNumbers(s string, bits int, lay func(v []byte, n uint32) []byte) (string, bool) {
	var v []byte
	for _, digits := range strings.Split(s, " ") {
		n, err := strconv.ParseUint(strings.TrimPrefix(digits, "0x"), 16, bits)
		if err != nil {
			return "", false
		}
		v = lay(v, uint32(n))
	}
	return string(v), true
}
