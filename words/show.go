package words

import (
	"strings"
	"unicode/utf8"

	"reveille/api"
)

// The greatest width of a column, and how many columns there may be.
const (
	maxWidth   = 4096
	maxColumns = 64
)

// Show is a text as it is shown.
func Show(s string) string {
	var b strings.Builder
	for i, r := range s {
		b.WriteString(shown(taken(s, i, r), r))
	}
	return b.String()
}

// Width is how many runes a text takes where it is shown.
func Width(s string) int {
	n := 0
	for i, r := range s {
		n += shownWidth(taken(s, i, r), r)
	}
	return n
}

// taken is what is taken of a text at a place where ranging tells r. Ranging tells utf8.RuneError of a break as well as of the rune of that number: only their lengths are unlike.
func taken(s string, at int, r rune) string {
	n := utf8.RuneLen(r)
	if r == utf8.RuneError {
		_, n = utf8.DecodeRuneInString(s[at:])
	}
	return s[at : at+n]
}

// hidden says whether a part of a text, with r in it, is shown by its bytes.
func hidden(part string, r rune) bool {
	broken := r == utf8.RuneError && len(part) == 1
	return broken || r < 0x20 || r >= 0x7f && r <= 0x9f
}

// shown is how a part of a text is shown, with r in it.
func shown(part string, r rune) string {
	switch {
	case hidden(part, r):
		return escaped(part)
	case r == '\\':
		return `\\`
	}
	return part
}

// shownWidth is how many runes shown tells of a part; asked by itself, so that a width costs no room.
func shownWidth(part string, r rune) int {
	switch {
	case hidden(part, r):
		return len(`\xNN`) * len(part)
	case r == '\\':
		return len(`\\`)
	}
	return 1
}

// escaped are a part's bytes, each as \xNN.
func escaped(part string) string {
	const digits = "0123456789abcdef"
	var b strings.Builder
	for i := range len(part) {
		b.WriteString(`\x`)
		b.WriteByte(digits[part[i]>>4])
		b.WriteByte(digits[part[i]&15])
	}
	return b.String()
}

// Fit is a text in just so many runes.
func Fit(s string, width int) (string, api.Errno) {
	if !isWidth(width) {
		return "", api.ErrArg
	}
	return fit(s, width), api.OK
}

func isWidth(width int) bool { return width >= 1 && width <= maxWidth }

// fit is Fit of a width that may be.
func fit(s string, width int) string {
	lack := width - Width(s)
	if lack < 0 {
		return shownHead(s, width-1) + "~"
	}
	return Show(s) + strings.Repeat(" ", lack)
}

// shownHead are the first n runes that a text shows. It stops there, for a long text may show far more than fits.
func shownHead(s string, n int) string {
	var b strings.Builder
	for i, r := range s {
		for _, c := range shown(taken(s, i, r), r) {
			if n == 0 {
				return b.String()
			}
			b.WriteRune(c)
			n--
		}
	}
	return b.String()
}

// Columns are rows, each thing in its width.
func Columns(rows [][]string, widths []int) ([]string, api.Errno) {
	if !areColumns(rows, widths) {
		return nil, api.ErrArg
	}
	lines := make([]string, len(rows))
	for i, row := range rows {
		lines[i] = columnsLine(row, widths)
	}
	return lines, api.OK
}

// areColumns says whether the widths may be, and no row has more things than there are of them.
func areColumns(rows [][]string, widths []int) bool {
	if len(widths) > maxColumns {
		return false
	}
	for _, w := range widths {
		if !isWidth(w) {
			return false
		}
	}
	for _, row := range rows {
		if len(row) > len(widths) {
			return false
		}
	}
	return true
}

// columnsLine is the line of one row.
func columnsLine(row []string, widths []int) string {
	var b strings.Builder
	for i, s := range row {
		if i > 0 {
			b.WriteByte(' ')
		}
		b.WriteString(fit(s, widths[i]))
	}
	return strings.TrimRight(b.String(), " ")
}
