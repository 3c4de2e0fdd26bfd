package words

import (
	"strconv"
	"strings"

	"reveille/api"
)

// Quote is a text in quotes.
func Quote(s string) string {
	return `"` + strings.ReplaceAll(Show(s), `"`, `\"`) + `"`
}

// Line is the line of these words.
func Line(l []string) string {
	var b strings.Builder
	for i, s := range l {
		if i > 0 {
			b.WriteByte(' ')
		}
		b.WriteString(inLine(s))
	}
	return b.String()
}

// inLine is a text as it stands in a line.
func inLine(s string) string {
	if isPlain(s) {
		return s
	}
	return Quote(s)
}

// isPlain says whether a text is a plain word.
func isPlain(s string) bool {
	for i := range len(s) {
		if c := s[i]; c < 0x21 || c > 0x7e || c == '"' || c == '\\' {
			return false
		}
	}
	return s != ""
}

// Fields are a line's words.
func Fields(line string) ([]string, api.Errno) {
	if line == "" {
		return nil, api.OK
	}
	var l []string
	for {
		end := wordEnd(line)
		s, ok := read(line[:end])
		if !ok {
			return nil, api.ErrForm
		}
		l = append(l, s)
		if end == len(line) {
			return l, api.OK
		}
		if line[end] != ' ' {
			return nil, api.ErrForm
		}
		line = line[end+1:]
	}
}

// wordEnd is the place behind a line's first word: behind the quote that ends it, or at the next blank.
func wordEnd(line string) int {
	if !strings.HasPrefix(line, `"`) {
		if i := strings.IndexByte(line, ' '); i >= 0 {
			return i
		}
		return len(line)
	}
	for i := 1; i < len(line); i++ {
		switch line[i] {
		case '\\':
			i++
		case '"':
			return i + 1
		}
	}
	return len(line)
}

// read is the text that stands as word in a line, and whether one does. Each text stands in one way alone, so it is enough to tell again what was read: whatever else could be read so is refused by that.
func read(word string) (string, bool) {
	s := word
	if strings.HasPrefix(word, `"`) {
		s = unescaped(strings.TrimSuffix(word[1:], `"`))
	}
	return s, inLine(s) == word
}

// unescaped is a text without the backslashes by which it was quoted.
func unescaped(s string) string {
	var b strings.Builder
	for s != "" {
		c, n := firstByte(s)
		b.WriteByte(c)
		s = s[n:]
	}
	return b.String()
}

// firstByte is the byte that a quoted text begins with, and how many bytes say it there.
func firstByte(s string) (byte, int) {
	if s[0] != '\\' || len(s) < 2 {
		return s[0], 1
	}
	if s[1] == 'x' && len(s) >= 4 {
		if n, err := strconv.ParseUint(s[2:4], 16, 8); err == nil {
			return byte(n), 4
		}
	}
	return s[1], 2
}
