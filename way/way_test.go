package way

import (
	"math"
	"math/rand"
	"regexp"
	"slices"
	"strings"
	"testing"

	"estuary/api"
	"estuary/value"
)

func key(s string) api.Step { return api.Step{Kind: api.ByKey, Key: s} }
func index(n int) api.Step  { return api.Step{Kind: api.ByIndex, N: n} }
func child(n int) api.Step  { return api.Step{Kind: api.ByChild, N: n} }

func steps(l ...api.Step) []api.Step { return l }

// many is n times the same step.
func many(n int, step api.Step) []api.Step { return slices.Repeat(steps(step), n) }

const top = 1<<31 - 1

// rightWays are ways and their texts.
func rightWays() map[string][]api.Step {
	most := strings.Repeat("k", api.MaxKey)
	return map[string][]api.Step{
		"/":                               nil,
		"/a":                              steps(key("a")),
		"/a/b[3]~0":                       steps(key("a"), key("b"), index(3), child(0)),
		`/"a b"`:                          steps(key("a b")),
		"[0]":                             steps(index(0)),
		"~0":                              steps(child(0)),
		"~10[10]":                         steps(child(10), index(10)),
		"[2147483647]":                    steps(index(top)),
		"~2147483647/a":                   steps(child(top), key("a")),
		"~1~2":                            steps(child(1), child(2)),
		"/azAZ09_-":                       steps(key("azAZ09_-")),
		"/0/-/_/-1":                       steps(key("0"), key("-"), key("_"), key("-1")),
		`/"/"/"["/"~"`:                    steps(key("/"), key("["), key("~")),
		`/"\""/"\\"`:                      steps(key(`"`), key(`\`)),
		`/"\\n"`:                          steps(key(`\n`)),
		`/"é"/"€"/"😀"`:                    steps(key("é"), key("€"), key("😀")),
		`/" "[1]/" a"~2`:                  steps(key(" "), index(1), key(" a"), child(2)),
		`/"a.b"/"@"/"{"`:                  steps(key("a.b"), key("@"), key("{")),
		"/\"`\"/\":\"":                    steps(key("`"), key(":")),
		"/" + most:                        steps(key(most)),
		"/" + most + "~7":                 steps(key(most), child(7)),
		`/"` + most[:api.MaxKey-1] + ` "`: steps(key(most[:api.MaxKey-1] + " ")),
		`/"` + strings.Repeat(`\"`, api.MaxKey) + `"`:      steps(key(strings.Repeat(`"`, api.MaxKey))),
		strings.Repeat("/a", api.MaxSteps):                 many(api.MaxSteps, key("a")),
		strings.Repeat("[2147483647]", api.MaxSteps):       many(api.MaxSteps, index(top)),
		strings.Repeat("~0", api.MaxSteps):                 many(api.MaxSteps, child(0)),
		strings.Repeat("/"+most, api.MaxSteps-1) + `/"\\"`: append(many(api.MaxSteps-1, key(most)), key(`\`)),
	}
}

// P13.1, P13.2, P13.4, the examples
func TestTextsOfWays(t *testing.T) {
	for text, l := range rightWays() {
		if why := Right(l); why != api.OK {
			t.Errorf("Right(%v) = %d", l, why)
		}
		if s, why := Print(l); s != text || why != api.OK {
			t.Errorf("Print(%v) = %q, %d", l, s, why)
		}
		if got, why, at := Parse(text); !slices.Equal(got, l) || why != api.OK || at != 0 {
			t.Errorf("Parse(%q) = %v, %d, %d", text, got, why, at)
		}
	}
}

// P13.1: the longest text of a way, and Parse takes it
func TestLongest(t *testing.T) {
	l := many(api.MaxSteps, key(strings.Repeat(`\`, api.MaxKey)))
	s, why := Print(l)
	if why != api.OK || len(s) != api.MaxSteps*(3+2*api.MaxKey) {
		t.Fatalf("%d bytes, %d", len(s), why)
	}
	if got, why, at := Parse(s); !slices.Equal(got, l) || why != api.OK || at != 0 {
		t.Errorf("Parse: %d at %d", why, at)
	}
}

// P13.1: wrong steps
func TestNotRight(t *testing.T) {
	over := strings.Repeat("k", api.MaxKey+1)
	for name, step := range map[string]api.Step{
		"the zero step":              {},
		"a kind behind the last":     {Kind: api.ByChild + 1},
		"a far kind":                 {Kind: 255, Key: "a"},
		"no key":                     key(""),
		"a key too long":             key(over),
		"a key with a line feed":     key("a\n"),
		"a key with a zero":          key("\x00"),
		"a key with a deleted":       key("\x7f"),
		"a key that is no UTF-8":     key("\xff"),
		"a key cut in a character":   key("é"[:1]),
		"a key and a number":         {Kind: api.ByKey, Key: "a", N: 1},
		"a key and one below":        {Kind: api.ByKey, Key: "a", N: -1},
		"an index below":             index(-1),
		"an index far below":         index(math.MinInt),
		"an index above":             index(top + 1),
		"an index far above":         index(math.MaxInt),
		"an index with a key":        {Kind: api.ByIndex, Key: "a", N: 1},
		"a child below":              child(-1),
		"a child above":              child(top + 1),
		"a child with a key":         {Kind: api.ByChild, Key: "a"},
		"a child with a key of zero": {Kind: api.ByChild, Key: "\x00"},
	} {
		for _, l := range [][]api.Step{steps(step), steps(key("a"), step), steps(step, key("a")), append(many(api.MaxSteps-1, index(0)), step)} {
			refused(t, name, l, api.ErrField)
		}
		refused(t, name, many(api.MaxSteps+1, step), api.ErrLong)
	}
	refused(t, "one step too many", many(api.MaxSteps+1, key("a")), api.ErrLong)
	refused(t, "many too many", many(100000, child(0)), api.ErrLong)
}

func refused(t *testing.T, name string, l []api.Step, why api.Errno) {
	t.Helper()
	if got := Right(l); got != why {
		t.Errorf("%s: Right = %d", name, got)
	}
	if s, got := Print(l); s != "" || got != why {
		t.Errorf("%s: Print = %q, %d", name, s, got)
	}
	for cut := range min(len(l), api.MaxSteps+1) {
		if got, is := Join(l[:cut], l[cut:]); len(got) > 0 || is != why {
			t.Errorf("%s: Join = %v, %d", name, got, is)
		}
	}
	if got, is := Join(l, nil); len(got) > 0 || is != why {
		t.Errorf("%s: Join = %v, %d", name, got, is)
	}
}

// P13.2: the place of the fault, and the examples
func TestParseRefuses(t *testing.T) {
	most := strings.Repeat("k", api.MaxKey)
	full := strings.Repeat("/a", api.MaxSteps)
	for s, at := range map[string]int{
		"":                              0,
		"a":                             0,
		" /":                            0,
		"0":                             0,
		"]":                             0,
		`"a"`:                           0,
		"\xff":                          0,
		"é":                             0,
		"//":                            1,
		"/[0]":                          1,
		"/~0":                           1,
		"/ ":                            1,
		"/]":                            1,
		"/.":                            1,
		"/é":                            1,
		"/\x00":                         1,
		"/a/":                           3,
		"/a//":                          3,
		"/a//b":                         3,
		"/a/[0]":                        3,
		"/a b":                          2,
		"/a]":                           2,
		"/aé":                           2,
		"/a@":                           2,
		"/a`":                           2,
		"/a{":                           2,
		"/a:":                           2,
		"/a^":                           2,
		"/a,":                           2,
		"/a.":                           2,
		`/a"`:                           2,
		`/a"b"`:                         2,
		"[":                             1,
		"[]":                            1,
		"[a]":                           1,
		"[-1]":                          1,
		"[+1]":                          1,
		"[ 1]":                          1,
		"[/":                            1,
		"[:":                            1,
		"[0":                            2,
		"[0a]":                          2,
		"[0 ]":                          2,
		"[00]":                          2,
		"/a[01]":                        4,
		"[0]0":                          3,
		"[0]]":                          3,
		"[0]a":                          3,
		"[0]/":                          4,
		"[0][":                          4,
		"[1/a":                          2,
		"[12":                           3,
		"[1[":                           2,
		"[1.0]":                         2,
		"~":                             1,
		"~a":                            1,
		"~-1":                           1,
		"~/":                            1,
		"~]":                            1,
		"~01":                           2,
		"~00":                           2,
		"~0]":                           2,
		"~0a":                           2,
		"~1 ":                           2,
		"~1~":                           3,
		"~١":                            1,
		"/a[2147483648]":                12,
		"[2147483650]":                  10,
		"[21474836470]":                 11,
		"[3000000000]":                  10,
		"[99999999999999999999999]":     10,
		"~2147483648":                   10,
		"~9999999999":                   10,
		"~4294967296":                   10,
		"~18446744073709551616":         11,
		"[2147483647":                   11,
		"[2147483647a":                  11,
		"[0000000000000000000000000001": 2,
		`/"a"`:                          1,
		`/"_"`:                          1,
		`/""`:                           1,
		`/"0"[0]`:                       1,
		`/a/"b"`:                        3,
		`/"a`:                           3,
		`/"`:                            2,
		`/"a b`:                         5,
		`/"a b"c`:                       6,
		`/"a b" `:                       6,
		`/"a b""`:                       6,
		`/"a b"/`:                       7,
		`/"\a"`:                         3,
		`/"\`:                           3,
		`/"a\`:                          4,
		`/" \u0`:                        6,
		`/" \u000a"`:                    8,
		`/" \u0041"`:                    7,
		`/" \n"`:                        1,
		`/a/" \t"`:                      3,
		`/"\u0000"`:                     1,
		`/"\u007f"`:                     1,
		"/\"a\nb\"":                     3,
		"/\"a\x7f\"":                    3,
		"/\"\xff\"":                     2,
		"/\"é\xff\"":                    4,
		"/" + most + "k":                1 + api.MaxKey,
		"/a/" + most + "kkkk/b":         3 + api.MaxKey,
		"/" + most + " ":                1 + api.MaxKey,
		"/" + most + "\"":               1 + api.MaxKey,
		`/"` + most + ` "`:              1,
		`/"` + most + ` `:               3 + api.MaxKey,
		`[7]/"` + most + `k"`:           4,
		`/"` + strings.Repeat("é", api.MaxKey/2) + `é"`: 1,
		full + "/":    len(full),
		full + "[":    len(full),
		full + "~0":   len(full),
		full + " ":    len(full),
		full + `/"`:   len(full),
		full + "/a/":  len(full),
		full + "b/c":  len(full) + 1,
		full + "bc ":  len(full) + 2,
		full + "/\n":  len(full),
		full + "[00]": len(full),
	} {
		if l, why, got := Parse(s); len(l) > 0 || why != api.ErrWay || got != at {
			t.Errorf("Parse(%q) = %v, %d, %d, not at %d", s, l, why, got, at)
		}
	}
}

// P13.2: texts that are too long
func TestParseTooLong(t *testing.T) {
	for _, s := range []string{strings.Repeat("/a", api.MaxWay/2) + "/", strings.Repeat(" ", api.MaxWay+1), "/\"" + strings.Repeat("a", 1<<20), strings.Repeat("\xff", 2*api.MaxWay)} {
		if l, why, at := Parse(s); len(l) > 0 || why != api.ErrLong || at != 0 {
			t.Errorf("%d bytes: %d, %d", len(s), why, at)
		}
	}
	for s, want := range map[string]int{
		strings.Repeat(" ", api.MaxWay):                 0,
		strings.Repeat("/a", api.MaxWay/2):              2 * api.MaxSteps,
		"/\"" + strings.Repeat("a", api.MaxWay-2):       api.MaxWay,
		"/\"" + strings.Repeat(" ", api.MaxWay-3) + `"`: 1,
	} {
		if l, why, at := Parse(s); len(l) > 0 || why != api.ErrWay || at != want {
			t.Errorf("%d bytes: %d, %d", len(s), why, at)
		}
	}
}

// isText tells by a form whether a text is a way's, of those with few steps, short keys and small numbers.
var isText = regexp.MustCompile(`^(/|((/[a01_]+|/"[a01_]*([ /\[\]~]|\\"|\\\\)([a01_ /\[\]~]|\\"|\\\\)*")|\[(0|1[01]*)\]|~(0|1[01]*))+)$`)

// texts hands over all texts of some letters up to a length.
func texts(letters string, most int, each func(s string)) {
	var grow func(s string)
	grow = func(s string) {
		each(s)
		if len(s) == most {
			return
		}
		for _, c := range letters {
			grow(s + string(c))
		}
	}
	grow("")
}

// P13.2, P13.4: Parse takes just the texts of right ways
func TestParseTakesJustTexts(t *testing.T) {
	for _, letters := range []string{`/[]~01a`, `/"\a ~0`} {
		taken := 0
		texts(letters, 7, func(s string) {
			l, why, at := Parse(s)
			if (why == api.OK) != isText.MatchString(s) {
				t.Fatalf("%q: %d at %d", s, why, at)
			}
			if why != api.OK {
				if len(l) > 0 || why != api.ErrWay || at < 0 || at > len(s) {
					t.Fatalf("%q: %v, %d, %d", s, l, why, at)
				}
				return
			}
			taken++
			if back, again := Print(l); back != s || again != api.OK || Right(l) != api.OK || at != 0 {
				t.Fatalf("%q: %v is printed as %q", s, l, back)
			}
		})
		if taken < 50 {
			t.Errorf("%s: %d texts of ways", letters, taken)
		}
	}
}

// goesOn tells by trying whether a text is the beginning of a way's.
func goesOn(s string) bool {
	return slices.ContainsFunc([]string{"", "a", "]", "0]", "0"}, func(more string) bool { return isText.MatchString(s + more) })
}

// P13.2: where nothing is quoted, the fault is at the first byte with which no text goes on
func TestPlacesByDefinition(t *testing.T) {
	texts(`/[]~01a `, 6, func(s string) {
		at := 0
		for at < len(s) && goesOn(s[:at+1]) {
			at++
		}
		if _, why, got := Parse(s); why == api.ErrWay && got != at {
			t.Fatalf("%q: at %d, not %d", s, got, at)
		}
	})
}

// P13.2: what stands in quotes is read by value.Unquote
func TestQuotedPlaces(t *testing.T) {
	texts(`"\ na`, 6, func(quoted string) {
		if !strings.HasPrefix(quoted, `"`) {
			return
		}
		s := "[7]/" + quoted
		k, size, bad := value.Unquote(quoted)
		want, place := api.ErrWay, 4
		switch {
		case bad != api.OK:
			place = 4 + size
		case k == "" || strings.Trim(k, "na") == "" || strings.Contains(k, "\n"):
		case size < len(quoted):
			place = 4 + size
		default:
			want, place = api.OK, 0
		}
		l, why, at := Parse(s)
		if why != want || at != place || (why == api.OK) != slices.Equal(l, steps(index(7), key(k))) {
			t.Fatalf("%q: %v, %d, %d", s, l, why, at)
		}
	})
}

// anyStep is one by chance, right ones among them.
func anyStep(r *rand.Rand) api.Step {
	keys := []string{"", "a", "b", "ab", "a b", "é", "\x00", "\xff", `"`, "-"}
	numbers := []int{0, 0, 1, 2, 10, top, top + 1, -1}
	return api.Step{Kind: api.StepKind(r.Intn(5)), Key: keys[r.Intn(len(keys))], N: numbers[r.Intn(len(numbers))]}
}

func rightStep(r *rand.Rand) api.Step {
	for {
		if step := anyStep(r); Right(steps(step)) == api.OK {
			return step
		}
	}
}

func anyWay(r *rand.Rand, most int, step func(*rand.Rand) api.Step) []api.Step {
	var l []api.Step
	for range r.Intn(most + 1) {
		l = append(l, step(r))
	}
	return l
}

// P13.4: ways by chance are printed and read
func TestPrintAndParse(t *testing.T) {
	r := rand.New(rand.NewSource(1))
	for range 20000 {
		l := anyWay(r, 6, rightStep)
		s, why := Print(l)
		if why != api.OK {
			t.Fatalf("%v: %d", l, why)
		}
		if got, why, at := Parse(s); !slices.Equal(got, l) || why != api.OK || at != 0 {
			t.Fatalf("%v: %q is read as %v, %d, %d", l, s, got, why, at)
		}
	}
}

// P13.3: what Compare goes by
func TestCompare(t *testing.T) {
	rising := [][]api.Step{
		nil,
		steps(api.Step{}),
		steps(key("")),
		steps(api.Step{Kind: api.ByKey, N: 1}),
		steps(key("a")),
		steps(key("a"), key("a")),
		steps(key("a"), index(9)),
		steps(key("a"), child(0)),
		steps(api.Step{Kind: api.ByKey, Key: "a", N: 1}),
		steps(key("ab")),
		steps(key("b")),
		steps(key("z")),
		steps(key("é")),
		steps(key("\xff")),
		steps(index(math.MinInt)),
		steps(index(-1)),
		steps(index(0)),
		steps(index(9)),
		steps(index(10)),
		steps(index(10), index(0)),
		steps(index(math.MaxInt)),
		steps(api.Step{Kind: api.ByIndex, Key: "a"}),
		steps(child(0)),
		steps(child(0), child(0), child(0)),
		steps(child(1)),
		steps(api.Step{Kind: 255}),
	}
	for i, a := range rising {
		for j, b := range rising {
			want := 0
			if i < j {
				want = -1
			} else if i > j {
				want = 1
			}
			if got := Compare(a, b); got != want {
				t.Errorf("Compare(%v, %v) = %d", a, b, got)
			}
		}
	}
}

// P13.3, P13.5, P13.6: ways by chance, right or not
func TestOrderAndStarts(t *testing.T) {
	r := rand.New(rand.NewSource(2))
	for range 50000 {
		a, b, c := anyWay(r, 3, anyStep), anyWay(r, 3, anyStep), anyWay(r, 3, anyStep)
		if r.Intn(2) == 0 {
			b = slices.Concat(a, b)
		}
		if Compare(a, b) != -Compare(b, a) || (Compare(a, b) == 0) != slices.Equal(a, b) {
			t.Fatalf("Compare(%v, %v) = %d, %d", a, b, Compare(a, b), Compare(b, a))
		}
		if Compare(a, b) <= 0 && Compare(b, c) <= 0 && Compare(a, c) > 0 {
			t.Fatalf("%v, %v, %v are not in order", a, b, c)
		}
		starts := true
		for i := range a {
			starts = starts && i < len(b) && a[i] == b[i]
		}
		if Starts(b, a) != starts || starts && len(b) > len(a) && Compare(a, b) != -1 {
			t.Fatalf("Starts(%v, %v) = %v", b, a, Starts(b, a))
		}
		joined, why := Join(a, c)
		if whole := slices.Concat(a, c); why != Right(whole) || why == api.OK && !slices.Equal(joined, whole) || why != api.OK && len(joined) > 0 {
			t.Fatalf("Join(%v, %v) = %v, %d", a, c, joined, why)
		}
		if why == api.OK && !Starts(joined, a) {
			t.Fatalf("%v does not start with %v", joined, a)
		}
		if up := Up(b); len(up) != max(0, len(b)-1) || !Starts(b, up) {
			t.Fatalf("Up(%v) = %v", b, up)
		}
	}
}

// P13.3: the edges
func TestStartsJoinUp(t *testing.T) {
	l := steps(key("a"), index(1))
	if !Starts(nil, nil) || !Starts(l, nil) || Starts(nil, l) || !Starts(l, l) || !Starts(l, l[:1]) || Starts(l[:1], l) || Starts(l, l[1:]) {
		t.Error("Starts")
	}
	if got, why := Join(nil, nil); len(got) > 0 || why != api.OK {
		t.Error("Join of none")
	}
	if got, why := Join(many(20, index(0)), many(12, child(0))); len(got) != api.MaxSteps || why != api.OK {
		t.Error("Join of as many as may be")
	}
	if got, why := Join(many(20, index(0)), many(13, child(0))); len(got) > 0 || why != api.ErrLong {
		t.Error("Join of too many")
	}
	if len(Up(nil)) > 0 || len(Up(steps(index(0)))) > 0 || !slices.Equal(Up(l), l[:1]) {
		t.Error("Up")
	}
}

// P3: neither what is handed in nor what is answered is shared
func TestMemory(t *testing.T) {
	spoil := func(l []api.Step) {
		l = l[:cap(l)]
		for i := range l {
			l[i] = child(99)
		}
	}
	room := append(make([]api.Step, 0, 8), key("a"), index(1), key("b"))
	other := append(make([]api.Step, 0, 8), child(2))
	was, was2 := slices.Clone(room[:8]), slices.Clone(other[:8])
	joined, _ := Join(room, other)
	more, _ := Join(room, nil)
	less, _ := Join(nil, room)
	up, front := Up(room), Up(room)
	for _, l := range [][]api.Step{joined, more, less, up} {
		spoil(l)
	}
	if !slices.Equal(room[:8], was) || !slices.Equal(other[:8], was2) || !slices.Equal(front, was[:2]) {
		t.Error("what is done to an answer shows")
	}
	one, _, _ := Parse("/a[1]")
	two, _, _ := Parse("/a[1]")
	spoil(one)
	if !slices.Equal(two, steps(key("a"), index(1))) {
		t.Error("two answers have memory in common")
	}
}
