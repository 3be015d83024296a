package words

import (
	"slices"
	"strings"
	"testing"

	"estuary/api"
)

// DOC.md, Words: a right text, a key.
func TestRightTextsAndKeys(t *testing.T) {
	for s, want := range map[string]bool{"a": true, "a b": true, "€": true, "\u0080": true, "~": true, "\uFFFD": true, "\"\\": true,
		"\xff": false, "a\xe2\x82": false, "\x00": false, "a\n": false, "\t": false, "\x1f": false, "\x7f": false, "\xed\xa0\x80": false} {
		if Right(s) != want || Key(s) != want {
			t.Errorf("%q: right %v, a key %v", s, Right(s), Key(s))
		}
	}
	if !Right("") || Key("") {
		t.Error("the empty text is right, and no key")
	}
	most := strings.Repeat("k", api.MaxKey)
	if !Key(most) || Key(most+"k") || !Right(most+"k") || Key(most[:api.MaxKey-2]+"€") {
		t.Error("the length of a key")
	}
}

// Chapter 4, Words: the words of a text.
func TestSplit(t *testing.T) {
	for s, want := range map[string][]string{
		"":                   nil,
		"   ":                nil,
		"a":                  {"a"},
		"  a   b ":           {"a", "b"},
		"a\tb":               {"a\tb"},
		`a "b c" d`:          {"a", `"b c"`, "d"},
		`a"b c"d e`:          {`a"b c"d`, "e"},
		`"a b`:               {`"a b`},
		`"a\" b" c`:          {`"a\" b"`, "c"},
		`"a\\" b`:            {`"a\\"`, "b"},
		`a\" b`:              {`a\" b`},
		`a\ b`:               {`a\`, "b"},
		`"a" "b"`:            {`"a"`, `"b"`},
		`"a"" b"`:            {`"a"" b"`},
		"\"a\\":              {"\"a\\"},
		`x"0a ff" ' '`:       {`x"0a ff"`, "'", "'"},
		"\xff \"\xff \xff\"": {"\xff", "\"\xff \xff\""},
	} {
		if got := Split(s); !slices.Equal(got, want) {
			t.Errorf("%q: %q", s, got)
		}
	}
}

// Chapter 4, P4.5: decimals.
func TestNumber(t *testing.T) {
	for s, want := range map[string]int64{"0": 0, "7": 7, "-1": -1, "10": 10, "9223372036854775807": 1<<63 - 1, "-9223372036854775808": -1 << 63} {
		if n, ok := Number(s); n != want || !ok {
			t.Errorf("%s: %d, %v", s, n, ok)
		}
	}
	for _, s := range []string{"", "+1", "01", "-0", "00", "-01", " 1", "1 ", "1_0", "0x1", "1.0", "-", "a", "9223372036854775808", "-9223372036854775809", "٣"} {
		if n, ok := Number(s); n != 0 || ok {
			t.Errorf("%q: %d, %v", s, n, ok)
		}
	}
}
