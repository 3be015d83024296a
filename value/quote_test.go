package value

import (
	"math/rand"
	"regexp"
	"strings"
	"testing"
	"unicode/utf8"

	"estuary/api"
)

// P3.5
func TestQuote(t *testing.T) {
	for s, want := range map[string]string{
		"":                 `""`,
		"a b":              `"a b"`,
		"\"\\":             `"\"\\"`,
		"\n\r\t":           `"\n\r\t"`,
		"\x00\x08\x1f\x7f": `"\u0000\u0008\u001f\u007f"`,
		"\x0b\x0c\x0e":     `"\u000b\u000c\u000e"`,
		"€😀\u0080\uFFFD/'": "\"€😀\u0080\uFFFD/'\"",
		"\xff":             "",
		"a\xe2\x82":        "",
	} {
		if got := Quote(s); got != want {
			t.Errorf("%q: %s", s, got)
		}
	}
}

// P3.5
func TestUnquoteOfWhatIsQuoted(t *testing.T) {
	var all strings.Builder
	for c := range rune(0x800) {
		all.WriteRune(c)
	}
	all.WriteString("\u0800\ud7ff\ue000\uffff\U00010000\U0010ffff")
	for _, s := range append(strings.Split(all.String(), ""), "", all.String()) {
		q := Quote(s)
		for _, behind := range []string{"", "\"", "a", "\xff", "\\"} {
			if got, n, e := Unquote(q + behind); got != s || n != len(q) || e != api.OK {
				t.Fatalf("%q: %q, %d, %d", q+behind, got, n, e)
			}
		}
	}
}

// P3.5
func TestUnquoteRefuses(t *testing.T) {
	for s, want := range map[string]int{
		"":                 0,
		"x":                0,
		" \"a\"":           0,
		`"`:                1,
		`"a`:               2,
		"\"a\n\"":          2,
		"\"\x7f\"":         1,
		"\"\x00":           1,
		`"\`:               2,
		`"\a"`:             2,
		`"\u`:              3,
		`"\U0000"`:         2,
		`"\u1"`:            3,
		`"\u01"`:           4,
		`"\u002`:           5,
		`"\u0020"`:         5,
		`"\u006`:           5,
		`"\u000a"`:         6,
		`"\u0009"`:         6,
		`"\u000d"`:         6,
		`"\u000`:           6,
		`"\u000g"`:         6,
		`"\u000B"`:         6,
		`"\u007e"`:         6,
		`"\u007`:           6,
		`"\u00`:            5,
		`"\u0000`:          7,
		"\"\xff\"":         1,
		"\"\xe2\x82":       3,
		"\"\xe2\x82\"":     3,
		"\"\xe2a":          2,
		"\"\xe0\x80\x80":   2,
		"\"\xed\xa0\x80":   2,
		"\"\xf4\x90":       2,
		"\"\xf0\x80":       2,
		"\"\xc1\x80":       1,
		"\"\xf5":           1,
		"\"\x80":           1,
		"\"a\xf0\x9f\x98":  5,
		"\"\xf0\x9f\x98\"": 4,
	} {
		if got, n, e := Unquote(s); got != "" || n != want || e != api.ErrSyntax {
			t.Errorf("%q: %q, %d, %d, not %d", s, got, n, e, want)
		}
	}
}

// begins tells by the chapter's words whether some quoted text begins so: one of these ends makes it whole.
func begins(p string, whole *regexp.Regexp) bool {
	if p == "" {
		return true
	}
	for _, end := range []string{"", `"`, `\"`, `"" `, `n"`, `u0000"`, `0000"`, `000"`, `00"`, `0"`, `f"`} {
		for _, rest := range []string{"", "\x80", "\xbf", "\x80\x80", "\xbf\xbf", "\x80\x80\x80", "\xbf\xbf\xbf"} {
			if s := p + rest + end; utf8.ValidString(s) && whole.MatchString(s) {
				return true
			}
		}
	}
	return false
}

// P3.5: the place is that of the first byte with which no quoted text goes on.
func TestUnquotePlaces(t *testing.T) {
	whole := regexp.MustCompile(`^"([^"\\\x00-\x1f\x7f]|\\["\\nrt]|\\u00(0[0-8bcef]|1[0-9a-f]|7f))*"$`)
	source := rand.New(rand.NewSource(7))
	parts := []string{"a", "€", "\\", "\"", "\\u00", "0", "1", "7", "f", "a", "\\n", "\n", "\xe2", "\xed", "\x80", "\xa0", "\xbf", "\xf0", "\xf4", "\x90", "\xc3", "\xff", "u", "0", "\\u001", "\\u007"}
	for range 30000 {
		s := "\""
		for range source.Intn(6) {
			s += parts[source.Intn(len(parts))]
		}
		size := 1
		for size <= len(s) && begins(s[:size], whole) && !whole.MatchString(s[:size]) {
			size++
		}
		got, n, e := Unquote(s)
		if size <= len(s) && utf8.ValidString(s[:size]) && whole.MatchString(s[:size]) {
			if n != size || e != api.OK || Quote(got) != s[:size] {
				t.Fatalf("%q: %q, %d, %d", s, got, n, e)
			}
		} else if got != "" || n != size-1 || e != api.ErrSyntax {
			t.Fatalf("%q: %q, %d, %d, not %d", s, got, n, e, size-1)
		}
	}
}
