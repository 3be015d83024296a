package value

import (
	"math"
	"math/big"
	"math/rand"
	"strconv"
	"strings"
	"testing"

	"estuary/api"
)

// P3.4
func TestPrint(t *testing.T) {
	type want struct {
		v api.Value
		s string
	}
	for _, c := range []want{
		{api.Value{}, "null"},
		{api.Value{Kind: api.Bool}, "false"},
		{api.Value{Kind: api.Bool, N: 1}, "true"},
		{api.Value{Kind: api.Int, N: 0}, "0"},
		{api.Value{Kind: api.Int, N: math.MinInt64}, "-9223372036854775808"},
		{api.Value{Kind: api.Float, F: 1500}, "1500.0"},
		{api.Value{Kind: api.Text}, `""`},
		{api.Value{Kind: api.Text, S: "a\n\"€"}, `"a\n\"€"`},
		{api.Value{Kind: api.Bytes, S: "\x0a\xff"}, `x"0aff"`},
		{api.Value{Kind: api.Bytes}, `x""`},
		{api.Value{Kind: api.Time, N: 12}, "@12"},
		{api.Value{Kind: api.Counter, N: 3}, "+3"},
		{api.Value{Kind: api.Counter, N: -3}, "+-3"},
		{api.Value{Kind: api.Map}, "{}"},
		{api.Value{Kind: api.List}, "[]"},
		{api.Value{Kind: api.String}, "''"},
		{api.Value{Kind: api.Outline}, "<>"},
	} {
		if got := Print(c.v); got != c.s {
			t.Errorf("%v: %s", c.v, got)
		}
		if got, e := Parse(c.s); e != api.OK || !same(got, c.v) {
			t.Errorf("%s: %v, %d", c.s, got, e)
		}
	}
	for _, v := range wrong() {
		if got := Print(v); got != "" {
			t.Errorf("%v, which is not right: %s", v, got)
		}
	}
}

// P3.4, P3.7
func TestParseOfWhatIsPrinted(t *testing.T) {
	for _, v := range rising() {
		if got, e := Parse(Print(v)); e != api.OK || !same(got, v) {
			t.Errorf("%v: %s, %v, %d", v, Print(v), got, e)
		}
	}
}

func floats() map[float64]string {
	return map[float64]string{
		0: "0.0", 1: "1.0", 0.1: "0.1", 100: "100.0", 1500: "1500.0", 0.02: "0.02", -2.5: "-2.5", 123.456: "123.456",
		0.00001: "0.00001", 0.000012: "0.000012", 0.000001: "1.0e-6", 0.0000099: "9.9e-6", -0.0000015: "-1.5e-6",
		1e20: "100000000000000000000.0", 123456789012345680000: "123456789012345680000.0", 1e21: "1.0e21", 1.25e21: "1.25e21", -1e21: "-1.0e21", 999999999999999900000: "999999999999999900000.0",
		5e-324: "5.0e-324", math.MaxFloat64: "1.7976931348623157e308", 2.2250738585072014e-308: "2.2250738585072014e-308",
		9007199254740993: "9007199254740992.0", 1125899906842624.25: "1125899906842624.2", 1125899906842624.75: "1125899906842624.8", 1e23: "1.0e23", 9.5e-3: "0.0095",
	}
}

// P3.4
func TestFloatTexts(t *testing.T) {
	for f, want := range floats() {
		v := api.Value{Kind: api.Float, F: f}
		if got := Print(v); got != want {
			t.Errorf("%g: %s, not %s", f, got, want)
		}
		if got, e := Parse(want); e != api.OK || !same(got, v) {
			t.Errorf("%s: %v, %d", want, got, e)
		}
	}
}

func exact(f float64) *big.Rat {
	return new(big.Rat).SetFloat64(f)
}

func middle(a, b *big.Rat) *big.Rat {
	m := new(big.Rat).Add(a, b)
	return m.Quo(m, big.NewRat(2, 1))
}

func power(x int) *big.Rat {
	p := new(big.Int).Exp(big.NewInt(10), big.NewInt(int64(max(x, -x))), nil)
	r := new(big.Rat).SetInt(p)
	if x < 0 {
		r.Inv(r)
	}
	return r
}

// wantDigits are the digits of a float above 0, and the exponent of the first, by the chapter's words.
func wantDigits(f float64) (string, int) {
	v := exact(f)
	low := middle(v, exact(math.Nextafter(f, 0)))
	edge := new(big.Int).Lsh(big.NewInt(1), 1024)
	high := middle(v, new(big.Rat).SetInt(edge))
	if f < math.MaxFloat64 {
		high = middle(v, exact(math.Nextafter(f, math.Inf(1))))
	}
	even := math.Float64bits(f)%2 == 0
	within := func(r *big.Rat) bool {
		l, h := low.Cmp(r), r.Cmp(high)
		return l < 0 && h < 0 || even && l <= 0 && h <= 0
	}
	x, _ := strconv.Atoi(strings.SplitN(strconv.FormatFloat(f, 'e', 25, 64), "e", 2)[1])
	for n := 1; ; n++ {
		unit := power(x - n + 1)
		scaled := new(big.Rat).Quo(v, unit)
		down := new(big.Int).Quo(scaled.Num(), scaled.Denom())
		up := new(big.Int).Add(down, big.NewInt(1))
		below := new(big.Rat).Mul(new(big.Rat).SetInt(down), unit)
		above := new(big.Rat).Mul(new(big.Rat).SetInt(up), unit)
		nearer := new(big.Rat).Sub(v, below).Cmp(new(big.Rat).Sub(above, v))
		d := down
		switch {
		case !within(below) && !within(above):
			continue
		case !within(below), within(above) && (nearer > 0 || nearer == 0 && down.Bit(0) == 1):
			d = up
		}
		text := d.String()
		return strings.TrimRight(text, "0"), x + len(text) - n
	}
}

// wantText lays digits out by the chapter's words.
func wantText(d string, x int) string {
	if x < -5 || x > 20 {
		rest := d[1:]
		if rest == "" {
			rest = "0"
		}
		return d[:1] + "." + rest + "e" + strconv.Itoa(x)
	}
	plain := strings.Repeat("0", max(-x, 0)) + d + strings.Repeat("0", 25)
	point := max(x, 0) + 1
	whole, rest := plain[:point], strings.TrimRight(plain[point:], "0")
	if rest == "" {
		rest = "0"
	}
	return whole + "." + rest
}

func checkFloat(t *testing.T, f float64) {
	t.Helper()
	if want, got := wantText(wantDigits(f)), Print(api.Value{Kind: api.Float, F: f}); got != want {
		t.Fatalf("%b: %s, not %s", f, got, want)
	}
	v := api.Value{Kind: api.Float, F: -f}
	if got := Print(v); got != "-"+Print(api.Value{Kind: api.Float, F: f}) {
		t.Fatalf("below 0: %s", got)
	}
	if got, e := Parse(Print(v)); e != api.OK || !same(got, v) {
		t.Fatalf("%s is not parsed: %d", Print(v), e)
	}
}

// P3.4: by the definition, at powers of two and of ten, where decimals are just in the middle, and at drawn floats.
func TestFloatTextsByTheDefinition(t *testing.T) {
	source := rand.New(rand.NewSource(4))
	for x := -1074; x < 1024; x += 5 {
		f := math.Ldexp(1, x)
		for _, g := range []float64{f, math.Nextafter(f, 0), math.Nextafter(f, math.Inf(1))} {
			if g > 0 {
				checkFloat(t, g)
			}
		}
	}
	for x := -323; x < 309; x += 4 {
		f, _ := strconv.ParseFloat("1e"+strconv.Itoa(x), 64)
		for _, g := range []float64{f, math.Nextafter(f, 0), math.Nextafter(f, math.Inf(1)), f * 5, f / 4} {
			if g > 0 && g <= math.MaxFloat64 {
				checkFloat(t, g)
			}
		}
	}
	for range 400 {
		if f := math.Abs(math.Float64frombits(source.Uint64())); f > 0 && f <= math.MaxFloat64 {
			checkFloat(t, f)
		}
		checkFloat(t, float64(1<<50+source.Int63n(1<<50))/float64(int64(1)<<source.Intn(20)))
		checkFloat(t, float64(1+source.Intn(1000))*math.SmallestNonzeroFloat64)
		checkFloat(t, float64(1+source.Intn(100000))/1000)
	}
	checkFloat(t, math.MaxFloat64)
}

// P3.4
func TestParseRefuses(t *testing.T) {
	for _, s := range []string{
		"", " ", "null ", " null", "Null", "nul", "tru", "True", "yes", "1.50", "01", "-0", "+5.0", "1e5", "\"a", "a\"", "1.0e5", "1.e21", "1e21", "1.0e+21", "1.0E21", "10.0e20", "0.1e22",
		"-0.0", "00.5", ".5", "5.", "0.000001", "1.0e-5", "1000000000000000000000.0", "inf", "Inf", "NaN", "+Inf", "1.0e309", "1.0e400", "-1.0e400", "1_0.5", "0x1p-2", "0x1.8", "0.10", "0.1000000000000000055511151231257827", "2.0e-324", "1.7976931348623159e308",
		"9223372036854775808", "-9223372036854775809", "--1", "+", "+ 1", "++1", "+01", "+-0", "+9223372036854775808", "-", "0x1", "1_0", "1 ",
		"@", "@-1", "@01", "@+1", "@9007199254740993", "@1.0", "@ 1",
		"x", "x\"", "x\"0\"", "x\"0A\"", "x\"0g\"", "x\"0a", "x\"0a\"b", "x0a", "X\"0a\"", "x'0a'", "x\"0a\"\"",
		`""a`, `"`, `"\u000a"`, `"\x41"`, `"\u0041"`, "\"\n\"", "\"\xff\"", `'a'`, "'", "{", "{} ", "{a}", "[ ]", "<", "<> ",
		`"` + strings.Repeat("a", api.MaxText+1) + `"`, `x"` + strings.Repeat("00", api.MaxText+1) + `"`,
	} {
		if v, e := Parse(s); e != api.ErrSyntax || !same(v, api.Value{}) {
			t.Errorf("%q: %v, %d", s, v, e)
		}
	}
}

// P3.4: whatever is taken is right, and prints just so.
func TestParseOfAnyText(t *testing.T) {
	source := rand.New(rand.NewSource(6))
	signs := []string{"0", "1", "5", "9", "-", "+", ".", "e", "@", "\"", "\\", "u0000", "n", "x", "x\"", "a", "€", "'", "{", "}", "null", "true", "21", " "}
	taken := 0
	for range 300000 {
		s := ""
		for range 1 + source.Intn(6) {
			s += signs[source.Intn(len(signs))]
		}
		v, e := Parse(s)
		if e == api.OK {
			taken++
			if Right(v) != api.OK || Print(v) != s {
				t.Fatalf("%q is taken as %v", s, v)
			}
		}
	}
	if taken < 5000 {
		t.Errorf("only %d were taken", taken)
	}
}
