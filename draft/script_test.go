package draft

import (
	"math/rand"
	"slices"
	"strings"
	"testing"
	"unicode/utf8"

	"estuary/api"
	"estuary/render"
)

func patch(at, count int, text string) api.Patch {
	return api.Patch{Kind: api.PatchText, At: at, Count: count, Text: text}
}

func samePatch(a, b api.Patch) bool {
	return a.Kind == b.Kind && a.At == b.At && a.Count == b.Count && a.Text == b.Text && len(a.Way)+len(b.Way)+len(a.Nodes)+len(b.Nodes)+len(a.Spans)+len(b.Spans) == 0
}

func script(t *testing.T, a, b string, want ...api.Patch) {
	t.Helper()
	if l := Script(a, b); !slices.EqualFunc(l, want, samePatch) {
		t.Errorf("Script(%.20q, %.20q) = %v, not %v", a, b, l, want)
	}
}

// P19.6: the first example, ends, and texts that are none
func TestScript(t *testing.T) {
	script(t, "kitten", "sitting", patch(0, 1, "s"), patch(4, 1, "i"), patch(6, 0, "g"))
	script(t, "a", "a")
	script(t, "ab", "ba", patch(0, 1, ""), patch(1, 0, "a"))
	script(t, "", "")
	script(t, "", "é\n€", patch(0, 0, "é\n€"))
	script(t, "é\n€", "", patch(0, 3, ""))
	script(t, "ab", "cd", patch(0, 2, "cd"))
	script(t, "aé€", "bé", patch(0, 1, "b"), patch(2, 1, ""))
	script(t, "x\ufffdy", "x\ufffd", patch(2, 1, ""))
	script(t, "\xff", "a")
	script(t, "a", "b\xe2\x82")
	script(t, "\xff", "\xff")
}

// done does patches on a text, by characters.
func done(t *testing.T, s string, l []api.Patch) string {
	t.Helper()
	for _, p := range l {
		r := []rune(s)
		if p.At < 0 || p.Count < 0 || p.At+p.Count > len(r) {
			t.Fatalf("%v does not fit %q", p, s)
		}
		s = string(r[:p.At]) + p.Text + string(r[p.At+p.Count:])
	}
	return s
}

// modelScript is the script by the chapter's words, and how long the longest row in both is.
func modelScript(a, b string) ([]api.Patch, int) {
	x, y := []rune(a), []rune(b)
	known := map[[2]int]int{}
	var left func(i, j int) int
	left = func(i, j int) int {
		if i == len(x) || j == len(y) {
			return 0
		}
		if n, is := known[[2]int{i, j}]; is {
			return n
		}
		n := max(left(i+1, j), left(i, j+1))
		if x[i] == y[j] {
			n = max(n, left(i+1, j+1)+1)
		}
		known[[2]int{i, j}] = n
		return n
	}
	var l []api.Patch
	i, j, at, fresh := 0, 0, 0, true
	last := func() *api.Patch {
		if fresh {
			l, fresh = append(l, patch(at, 0, "")), false
		}
		return &l[len(l)-1]
	}
	for i < len(x) || j < len(y) {
		switch {
		case i < len(x) && j < len(y) && x[i] == y[j]:
			i, j, at, fresh = i+1, j+1, at+1, true
		case i < len(x) && (j == len(y) || left(i+1, j) >= left(i, j+1)):
			last().Count++
			i++
		default:
			last().Text += string(y[j])
			j, at = j+1, at+1
		}
	}
	return l, left(0, 0)
}

func anyText(r *rand.Rand, most int) string {
	var b strings.Builder
	for range r.Intn(most + 1) {
		b.WriteString(pickOne(r, "a", "a", "b", "c", "é", "€", "\U0001F600", "\n"))
	}
	return b.String()
}

// P19.6, P19.8: texts by chance
func TestScriptByChance(t *testing.T) {
	r := rand.New(rand.NewSource(19))
	for range 3000 {
		a, b := anyText(r, 12), anyText(r, 12)
		want, common := modelScript(a, b)
		l := Script(a, b)
		if !slices.EqualFunc(l, want, samePatch) {
			t.Fatalf("Script(%q, %q) = %v, not %v", a, b, l, want)
		}
		if got := done(t, a, l); got != b {
			t.Fatalf("Script(%q, %q), done, gives %q", a, b, got)
		}
		changed := 0
		for _, p := range l {
			changed += p.Count + utf8.RuneCountInString(p.Text)
		}
		if fewest := utf8.RuneCountInString(a) + utf8.RuneCountInString(b) - 2*common; changed != fewest {
			t.Fatalf("Script(%q, %q) changes %d characters, not %d", a, b, changed, fewest)
		}
	}
}

// P19.6: MaxDiff characters, not bytes, are compared one by one; of more only the ends are kept
func TestScriptOfLongTexts(t *testing.T) {
	full, other := strings.Repeat("é", api.MaxDiff-4), strings.Repeat("x", 100)
	script(t, "a"+full+"b€c", "A"+full+"B€c", patch(0, 1, "A"), patch(api.MaxDiff-3, 1, "B"))
	script(t, "a"+full+"b€cd", "A"+full+"B€cd", patch(0, api.MaxDiff-2, "A"+full+"B"))
	script(t, "a"+full+"b€cd", "ax€cd", patch(1, api.MaxDiff-3, "x"))
	script(t, "ax€cd", "a"+full+"b€cd", patch(1, 1, full+"b"))
	// one of the two is enough
	script(t, "a"+full+"éébcd", "Aécd", patch(0, api.MaxDiff, "Aé"))
	script(t, "Aécd", "a"+full+"éébcd", patch(0, 2, "a"+full+"ééb"))
	// what is kept at the front is not kept at the end once more
	long := strings.Repeat("a", api.MaxDiff+1)
	script(t, long, long)
	script(t, long, long+"a", patch(api.MaxDiff+1, 0, "a"))
	script(t, long+"a", long, patch(api.MaxDiff+1, 1, ""))
	script(t, long, "", patch(0, api.MaxDiff+1, ""))
	script(t, "", long, patch(0, 0, long))
	script(t, "aa", long, patch(2, 0, long[2:]))
	script(t, other+long, long, patch(0, 100, ""))
	script(t, long, "b", patch(0, api.MaxDiff+1, "b"))
	script(t, long, "\xff")
}

// P19.3, P19.9: Rewrite is done by the patches of Script, and by no other edits
func TestRewrite(t *testing.T) {
	r := rand.New(rand.NewSource(91))
	for range 200 {
		a, b := anyText(r, 15), anyText(r, 15)
		d := begun(t)
		ok(t, d.Put(by(byKey("t")), kind(api.String)))
		ok(t, d.Type(by(byKey("t")), 0, 0, a))
		before := len(d.Edits())
		e := begun(t)
		ok(t, e.Put(by(byKey("t")), kind(api.String)))
		ok(t, e.Type(by(byKey("t")), 0, 0, a))
		l, _ := modelScript(a, b)
		for _, p := range l {
			ok(t, e.Type(by(byKey("t")), p.At, p.Count, p.Text))
		}
		ok(t, d.Rewrite(by(byKey("t")), b))
		if !slices.Equal(d.Edits(), e.Edits()) {
			t.Fatalf("%q to %q: %v, not %v", a, b, d.Edits()[before:], e.Edits()[before:])
		}
		if n := d.Nodes(); n[1].Text != b || render.Full(n) != render.Full(e.Nodes()) {
			t.Fatalf("%q to %q: %q", a, b, n[1].Text)
		}
	}
}
