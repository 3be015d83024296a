package value

import (
	"strconv"
	"strings"

	"estuary/api"
)

const (
	digits      = "0123456789abcdef"
	leastPlain  = -5 // the exponents of the first digit from which on, and up to which, a float is written plainly
	mostPlain   = 20
	nullText    = "null"
	falseText   = "false"
	trueText    = "true"
	mapText     = "{}"
	listText    = "[]"
	stringText  = "''"
	outlineText = "<>"
)

// Print is a right value's text.
func Print(v api.Value) string {
	if !right(v) {
		return ""
	}
	switch v.Kind {
	case api.Bool:
		if v.N == 1 {
			return trueText
		}
		return falseText
	case api.Int:
		return strconv.FormatInt(v.N, 10)
	case api.Float:
		return floatText(v.F)
	case api.Text:
		return Quote(v.S)
	case api.Bytes:
		return bytesText(v.S)
	case api.Time:
		return "@" + strconv.FormatInt(v.N, 10)
	case api.Counter:
		return "+" + strconv.FormatInt(v.N, 10)
	case api.Map:
		return mapText
	case api.List:
		return listText
	case api.String:
		return stringText
	case api.Outline:
		return outlineText
	}
	return nullText
}

// Parse reads just what Print writes.
func Parse(s string) (api.Value, api.Errno) {
	v := guess(s)
	// A text that says a value in another way than Print (1.50, 01) is found out by printing it again.
	if !right(v) || Print(v) != s {
		return api.Value{}, api.ErrSyntax
	}
	return v, api.OK
}

// guess is the one value, if there is one, whose Print a text could be.
func guess(s string) api.Value {
	switch s {
	case "", nullText:
		return api.Value{}
	case falseText:
		return api.Value{Kind: api.Bool}
	case trueText:
		return api.Value{Kind: api.Bool, N: 1}
	case mapText:
		return api.Value{Kind: api.Map}
	case listText:
		return api.Value{Kind: api.List}
	case stringText:
		return api.Value{Kind: api.String}
	case outlineText:
		return api.Value{Kind: api.Outline}
	}
	return guessMarked(s)
}

// guessMarked is as guess, of a text that is not empty and whose first byte tells the kind.
func guessMarked(s string) api.Value {
	switch s[0] {
	case '"':
		text, _, _ := Unquote(s)
		return api.Value{Kind: api.Text, S: text}
	case 'x':
		return api.Value{Kind: api.Bytes, S: guessBytes(s)}
	case '@':
		return api.Value{Kind: api.Time, N: guessInt(s[1:])}
	case '+':
		return api.Value{Kind: api.Counter, N: guessInt(s[1:])}
	}
	if strings.Contains(s, ".") {
		f, _ := strconv.ParseFloat(s, 64)
		return api.Value{Kind: api.Float, F: f}
	}
	return api.Value{Kind: api.Int, N: guessInt(s)}
}

func guessInt(s string) int64 {
	n, _ := strconv.ParseInt(s, 10, 64)
	return n
}

func bytesText(s string) string {
	text := make([]byte, 0, len(`x""`)+2*len(s))
	text = append(text, `x"`...)
	for i := range len(s) {
		text = append(text, digits[s[i]>>4], digits[s[i]&15])
	}
	return string(append(text, '"'))
}

// guessBytes takes what stands behind x" two by two, as far as it is digits.
func guessBytes(s string) string {
	var b []byte
	for at := len(`x"`); at+1 < len(s); at += 2 {
		high, low := strings.IndexByte(digits, s[at]), strings.IndexByte(digits, s[at+1])
		if high < 0 || low < 0 {
			break
		}
		b = append(b, byte(high<<4|low))
	}
	return string(b)
}

// floatText is a float's text. The digits are strconv's shortest ones, which are those that the document asks for.
func floatText(f float64) string {
	mantissa, exponent, _ := strings.Cut(strconv.FormatFloat(f, 'e', -1, 64), "e")
	sign := ""
	if f < 0 {
		sign, mantissa = "-", mantissa[1:]
	}
	d := strings.Replace(mantissa, ".", "", 1)
	x, _ := strconv.Atoi(exponent)
	switch {
	case x < leastPlain || x > mostPlain:
		return sign + pointed(d, 1) + "e" + strconv.Itoa(x)
	case x < 0:
		return sign + "0." + strings.Repeat("0", -x-1) + d
	}
	return sign + pointed(d, x+1)
}

// pointed is digits with a point behind the first n; where there are too few, 0 stands for them.
func pointed(d string, n int) string {
	if len(d) <= n {
		return d + strings.Repeat("0", n-len(d)) + ".0"
	}
	return d[:n] + "." + d[n:]
}
