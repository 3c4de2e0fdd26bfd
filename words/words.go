// Package words is layer 1: names, texts of any bytes, columns, and small numbers; see shared/doc/01-words.md.
package words

import (
	"strings"

	"reveille/api"
)

// Name says whether a text is a name.
func Name(s string) api.Errno {
	if len(s) < 1 || len(s) > api.MaxName {
		return api.ErrName
	}
	for i := range len(s) {
		if !ofName(s[i]) {
			return api.ErrName
		}
	}
	return api.OK
}

// ofName says whether a byte may stand in a name.
func ofName(c byte) bool {
	if c >= 'a' && c <= 'z' || c >= '0' && c <= '9' {
		return true
	}
	return strings.IndexByte(",._+-@#?", c) >= 0
}

// Unit parts a name at its last @.
func Unit(s string) (base, at string, e api.Errno) {
	if e := Name(s); e != api.OK {
		return "", "", e
	}
	i := strings.LastIndexByte(s, '@')
	if i < 0 {
		return s, "", api.OK
	}
	return s[:i], s[i+1:], api.OK
}
