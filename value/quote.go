package value

import (
	"strings"
	"unicode/utf8"

	"estuary/api"
)

const (
	deleted = 127
	byCode  = `\u00` // ahead of two digits: a character that has no sign of its own behind the \
)

// Quote writes a text within quotes.
func Quote(s string) string {
	if !utf8.ValidString(s) {
		return ""
	}
	text := make([]byte, 0, len(s)+2)
	text = append(text, '"')
	for _, c := range s {
		text = appendCharacter(text, c)
	}
	return string(append(text, '"'))
}

func appendCharacter(text []byte, c rune) []byte {
	switch {
	case sign(c) != 0:
		return append(text, '\\', sign(c))
	case hidden(c):
		return append(append(text, byCode...), digits[c>>4], digits[c&15])
	}
	return utf8.AppendRune(text, c)
}

// sign is what stands for a character behind a \; 0, if that has none.
func sign(c rune) byte {
	switch c {
	case '"', '\\':
		return byte(c)
	case '\n':
		return 'n'
	case '\r':
		return 'r'
	case '\t':
		return 't'
	}
	return 0
}

// hidden tells of a character that is never written as it stands.
func hidden(c rune) bool {
	return c < ' ' || c == deleted
}

// Unquote reads what Quote writes at the beginning of a text, and how many bytes that is (the place of the fault, where there is one).
func Unquote(s string) (string, int, api.Errno) {
	if s == "" || s[0] != '"' {
		return "", 0, api.ErrSyntax
	}
	var text strings.Builder
	at := 1
	for at < len(s) && s[at] != '"' {
		c, size, ok := character(s[at:])
		at += size
		if !ok {
			return "", at, api.ErrSyntax
		}
		text.WriteRune(c)
	}
	if at == len(s) {
		return "", at, api.ErrSyntax
	}
	return text.String(), at + 1, api.OK
}

// character is the one with which a text begins as Quote writes it, and how many bytes it has there; if it is none, how many bytes are the beginning of one.
func character(s string) (rune, int, bool) {
	c, size := utf8.DecodeRuneInString(s)
	switch {
	case c == '\\':
		return escaped(s)
	case c == utf8.RuneError && size == 1:
		return 0, begun(s), false
	case hidden(c):
		return 0, 0, false
	}
	return c, size, true
}

// begun is how many bytes of a text could go on as a character, of one that does not.
func begun(s string) int {
	n := 0
	for n < len(s) && !utf8.FullRuneInString(s[:n+1]) {
		n++
	}
	return n
}

// escaped is as character, of a text that begins with a \.
func escaped(s string) (rune, int, bool) {
	if len(s) < 2 {
		return 0, len(s), false
	}
	for _, c := range "\"\\\n\r\t" {
		if s[1] == sign(c) {
			return c, 2, true
		}
	}
	return coded(s)
}

// coded is as character, of a text that begins with a \ and no sign behind it.
func coded(s string) (rune, int, bool) {
	n := 0
	for n < len(byCode) && n < len(s) && s[n] == byCode[n] {
		n++
	}
	if n < len(byCode) || n == len(s) {
		return 0, n, false
	}
	high := rune(strings.IndexByte(digits, s[n]))
	if high != 0 && high != 1 && high != deleted>>4 {
		return 0, n, false
	}
	n++
	if n == len(s) {
		return 0, n, false
	}
	low := rune(strings.IndexByte(digits, s[n]))
	c := high<<4 | low
	if low < 0 || !hidden(c) || sign(c) != 0 {
		return 0, n, false
	}
	return c, n + 1, true
}
