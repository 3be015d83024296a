// Package words holds what the document says of texts for all layers: which are right, which are keys, and how a line falls into words.
package words

import (
	"strconv"
	"unicode/utf8"

	"estuary/api"
)

const deleted = 127 // the one byte above 31 that no right text has

// Right tells whether a text is valid UTF-8 without the bytes 0 to 31 and 127.
func Right(s string) bool {
	for i := range len(s) {
		if s[i] < ' ' || s[i] == deleted {
			return false
		}
	}
	return utf8.ValidString(s)
}

// Key tells whether a text can be a key of a map, a mark's name, a position.
func Key(s string) bool {
	return s != "" && len(s) <= api.MaxKey && Right(s)
}

// Number reads a decimal as it is written: no +, no needless 0, no -0.
func Number(s string) (int64, bool) {
	n, err := strconv.ParseInt(s, 10, 64)
	if err != nil || strconv.FormatInt(n, 10) != s {
		return 0, false
	}
	return n, true
}

// Split is what stands between blanks; those within quotes belong to the word.
func Split(s string) []string {
	var l []string
	for at := 0; at < len(s); {
		if s[at] == ' ' {
			at++
			continue
		}
		size := wordSize(s[at:])
		l = append(l, s[at:at+size])
		at += size
	}
	return l
}

// wordSize is how many bytes the word has with which a text begins.
func wordSize(s string) int {
	quoted := false
	for at := 0; at < len(s); at++ {
		switch {
		case s[at] == '"':
			quoted = !quoted
		case quoted && s[at] == '\\':
			at++
		case !quoted && s[at] == ' ':
			return at
		}
	}
	return len(s)
}
