package render

import (
	"fmt"
	"math"
	"math/rand"
	"slices"
	"strings"
	"testing"

	"estuary/api"
	"estuary/doc"
	"estuary/way"
)

func byKey(key string) api.Step { return api.Step{Kind: api.ByKey, Key: key} }
func byIndex(n int) api.Step    { return api.Step{Kind: api.ByIndex, N: n} }
func byChild(n int) api.Step    { return api.Step{Kind: api.ByChild, N: n} }

// to is a way by its text.
func to(t *testing.T, s string) []api.Step {
	t.Helper()
	l, why, _ := way.Parse(s)
	if why != api.OK {
		t.Fatalf("%s: %d", s, why)
	}
	return l
}

// typeIn puts characters one behind the other into a String.
func (w *writer) typeIn(t *testing.T, obj api.Id, s string) (ids []api.Id) {
	t.Helper()
	at := api.Id{}
	for _, c := range s {
		at = w.do(t, api.Op{Act: api.Insert, Obj: obj, At: at, Value: text(string(c))})
		ids = append(ids, at)
	}
	return ids
}

// sample is a document with all of the examples in it, and the Ids of what was put there.
func sample(t *testing.T) (*writer, map[string]api.Id) {
	t.Helper()
	w := newWriter()
	ids := map[string]api.Id{}
	ids["a"] = w.do(t, api.Op{Act: api.Put, Key: "a", Value: kind(api.List)})
	ids["1"] = w.do(t, api.Op{Act: api.Insert, Obj: ids["a"], Value: whole(1)})
	ids["x"] = w.do(t, api.Op{Act: api.Insert, Obj: ids["a"], At: ids["1"], Value: text("x")})
	ids["o"] = w.do(t, api.Op{Act: api.Put, Key: "o", Value: kind(api.Outline)})
	ids["m"] = w.do(t, api.Op{Act: api.Grow, Obj: ids["o"], Key: "m", Value: text("x")})
	ids["y"] = w.do(t, api.Op{Act: api.Grow, Obj: ids["o"], At: ids["m"], Key: "a", Value: text("y")})
	ids["t"] = w.do(t, api.Op{Act: api.Put, Key: "t", Value: kind(api.String)})
	typed := w.typeIn(t, ids["t"], `it's "so"`)
	ids["s"] = typed[3]
	w.do(t, api.Op{Act: api.Mark, Obj: ids["t"], At: typed[0], To: typed[1], Sides: 2, Key: "b i", Value: api.Value{Kind: api.Bool, N: 1}})
	w.do(t, api.Op{Act: api.Mark, Obj: ids["a"], Key: "n", Value: whole(-7)})
	ids["first"] = w.do(t, api.Op{Act: api.Put, Key: "z", Value: whole(1)})
	if !w.try(api.Op{Act: api.Put, Key: "z", Value: whole(2)}, nil) {
		t.Fatal("a put beside another one")
	}
	return w, ids
}

const sampleText = `{"a":[1,"x"],"o":<"m":"x"<"a":"y">>,"t":'it\'s "so"',"z":2}`

// P15.1, P15.2, the first example
func TestTextsOfDocuments(t *testing.T) {
	for _, d := range []*doc.Doc{nil, doc.New()} {
		l := Nodes(d)
		if !sameNodes(l, []api.Node{{Value: kind(api.Map)}}) || Text(l) != "{}" || Full(l) != "- map 00000000.0\n" {
			t.Errorf("an empty document: %v, %s, %s", l, Text(l), Full(l))
		}
	}
	w, _ := sample(t)
	if got := Text(Nodes(w.d)); got != sampleText {
		t.Errorf("Text = %s", got)
	}
}

// P15.1, P15.3
func TestFullOfADocument(t *testing.T) {
	w, ids := sample(t)
	name := func(key string) string { return fmt.Sprintf("%02x000000.%d", ids[key].Hash[0], ids[key].N) }
	want := "- map 00000000.0\n" +
		"  \"a\" list " + name("a") + " 0-2:\"n\"=-7\n" +
		"    - 1 " + name("1") + "\n" +
		"    - \"x\" " + name("x") + "\n" +
		"  \"o\" outline " + name("o") + "\n" +
		"    \"m\" \"x\" " + name("m") + "\n" +
		"      \"a\" \"y\" " + name("y") + "\n" +
		"  \"t\" string " + name("t") + " \"it's \\\"so\\\"\" 0-2:\"b i\"=true\n" +
		"  \"z\" 2 " + fmt.Sprintf("%02x000000.%d", w.n%3, w.n) + " +1\n"
	if got := Full(Nodes(w.d)); got != want {
		t.Errorf("Full = %s, not %s", got, want)
	}
}

// P15.1: what is shown where others lie too, or nothing is to be seen, or all that was there is hidden
func TestNodesOfWhatIsHidden(t *testing.T) {
	w, ids := sample(t)
	w.do(t, api.Op{Act: api.Delete, Obj: ids["a"], At: ids["1"]})
	w.do(t, api.Op{Act: api.Put, Obj: ids["o"], At: ids["y"], Value: kind(api.Null)})
	w.do(t, api.Op{Act: api.Move, Obj: ids["o"], At: ids["y"], Key: "b"})
	w.do(t, api.Op{Act: api.Delete, Obj: ids["t"], At: ids["s"]})
	w.do(t, api.Op{Act: api.Delete, Key: "z"})
	if got := Text(Nodes(w.d)); got != `{"a":["x"],"o":<"b":null,"m":"x">,"t":'it\' "so"'}` {
		t.Errorf("Text = %s", got)
	}
	w.do(t, api.Op{Act: api.Prune, Obj: ids["o"], At: ids["m"]})
	w.do(t, api.Op{Act: api.Delete, Obj: ids["a"], At: ids["x"]})
	w.do(t, api.Op{Act: api.Put, Key: "t", Value: text("t")})
	if got := Text(Nodes(w.d)); got != `{"a":[],"o":<"b":null>,"t":"t"}` {
		t.Errorf("Text = %s", got)
	}
}

// P15.1, P15.2, P15.3, P15.7, P15.8: documents by chance, held against the chapter's words
func TestAnyDocument(t *testing.T) {
	r := rand.New(rand.NewSource(1))
	for round := range 400 {
		w := anyDoc(r, r.Intn(60))
		tree := branchOf(w.d, api.Place{}, "", api.Step{}, false)
		l := Nodes(w.d)
		if !sameNodes(l, tree.flat(0)) {
			t.Fatalf("round %d: Nodes = %v, not %v", round, l, tree.flat(0))
		}
		if !isSound(l) {
			t.Fatalf("round %d: nodes that are not sound: %v", round, l)
		}
		s := Text(l)
		if s != tree.text() || Full(l) != wantFull(l) {
			t.Fatalf("round %d: Text = %s, not %s; Full = %s", round, s, tree.text(), Full(l))
		}
		if back, why := Parse(s); why != api.OK || !sameNodes(back, bare(l)) {
			t.Fatalf("round %d: Parse(%s) = %v, %d", round, s, back, why)
		}
	}
}

// nodes is a part in short: Deep, Key, Value of each.
func nodes(l ...any) []api.Node {
	var out []api.Node
	for i := 0; i+2 < len(l); i += 3 {
		out = append(out, api.Node{Deep: l[i].(int), Key: l[i+1].(string), Value: l[i+2].(api.Value)})
	}
	return out
}

// P15.2, P15.3: parts that begin with anything
func TestTextsOfParts(t *testing.T) {
	list, mapping, outline := kind(api.List), kind(api.Map), kind(api.Outline)
	for want, l := range map[string][]api.Node{
		`1`:                           nodes(0, "", whole(1)),
		`null`:                        nodes(0, "k", kind(api.Null)),
		`2`:                           nodes(0, "\xff", whole(2)),
		`null<"a":null>`:              nodes(0, "k", kind(api.Null), 1, "a", kind(api.Null)),
		`1<"a":2<"b":3,"b":4>,"a":5>`: nodes(0, "", whole(1), 1, "a", whole(2), 2, "b", whole(3), 2, "b", whole(4), 1, "a", whole(5)),
		`[]`:                          nodes(0, "", list),
		`[1,[2],[],3]`:                nodes(0, "", list, 1, "", whole(1), 1, "", list, 2, "", whole(2), 1, "", list, 1, "", whole(3)),
		`<>`:                          nodes(0, "", outline),
		`<"a":1<"b":2>,"c":3>`:        nodes(0, "", outline, 1, "a", whole(1), 2, "b", whole(2), 1, "c", whole(3)),
		`{"\"":{},"a b":<>}`:          nodes(0, "", mapping, 1, "\"", mapping, 1, "a b", outline),
		`''`:                          nodes(0, "", kind(api.String)),
		`{"a":x"00","b":@1,"c":+-2}`:  nodes(0, "", mapping, 1, "a", api.Value{Kind: api.Bytes, S: "\x00"}, 1, "b", api.Value{Kind: api.Time, N: 1}, 1, "c", api.Value{Kind: api.Counter, N: -2}),
	} {
		if got := Text(l); got != want || !isPart(l) {
			t.Errorf("Text = %s, not %s", got, want)
		}
		if got := Full(l); got != wantFull(l) {
			t.Errorf("%s: Full = %s", want, got)
		}
	}
	for s, want := range map[string]string{"": `''`, "'": `'\''`, `"`: `'"'`, `\`: `'\\'`, `\'`: `'\\\''`, `\"`: `'\\"'`, `"'"`: `'"\'"'`, "\n\t\r\x00\x7f": `'\n\t\r\u0000\u007f'`, "é€😀": `'é€😀'`, "a\"": `'a"'`} {
		l := []api.Node{{Value: kind(api.String), Text: s}}
		if got := Text(l); got != want {
			t.Errorf("%q: Text = %s, not %s", s, got, want)
		}
	}
}

// P15.3: every part of a line
func TestLines(t *testing.T) {
	n := api.Node{Key: "k", Id: api.Id{Hash: api.Hash{0xab, 0xcd, 1, 2, 3}, N: -5}, Value: kind(api.String), More: 12, Text: "a\"'é"}
	n.Spans = []api.Span{{From: 0, To: 1, Name: "b", Value: whole(3)}, {From: 0, To: 4, Name: "a\"", Value: text("x y")}}
	if got := Full([]api.Node{n}); got != "\"k\" string abcd0102.-5 +12 \"a\\\"'é\" 0-1:\"b\"=3 0-4:\"a\\\"\"=\"x y\"\n" {
		t.Errorf("Full = %s", got)
	}
	n = api.Node{Key: "\xff", Value: text("")}
	if got := Full([]api.Node{n}); got != " \"\" 00000000.0\n" {
		t.Errorf("a first key that is no text: Full = %q", got)
	}
}

// P15.2, P15.3, P15.4: what is no part has no text, no lines, and nothing to be found in it
func TestNoParts(t *testing.T) {
	list, mapping, outline, str := kind(api.List), kind(api.Map), kind(api.Outline), kind(api.String)
	one := whole(1)
	spans := func(v api.Value, s string, l ...api.Span) []api.Node {
		return []api.Node{{Value: v, Text: s, Spans: l}}
	}
	yes := api.Value{Kind: api.Bool, N: 1}
	long := strings.Repeat("k", api.MaxKey+1)
	for name, l := range map[string][]api.Node{
		"none":                         nil,
		"no nodes":                     {},
		"a first one that is deep":     nodes(1, "", one),
		"a first one below":            nodes(-1, "", one),
		"two first ones":               nodes(0, "", mapping, 0, "", mapping),
		"one below":                    nodes(0, "", list, -1, "", one),
		"two deeper":                   nodes(0, "", list, 2, "", one),
		"two deeper behind another":    nodes(0, "", list, 1, "", list, 3, "", one),
		"far deeper":                   nodes(0, "", list, math.MaxInt, "", one),
		"far below":                    nodes(0, "", list, math.MinInt, "", one),
		"a value that is not right":    nodes(0, "", api.Value{Kind: api.Bool, N: 2}),
		"no kind":                      nodes(0, "", kind(12)),
		"an object with more":          nodes(0, "", api.Value{Kind: api.Map, N: 1}),
		"in a scalar of a map":         nodes(0, "", mapping, 1, "a", one, 2, "a", one),
		"in a scalar of a list":        nodes(0, "", list, 1, "", one, 2, "", one),
		"in a String":                  nodes(0, "", str, 1, "", one),
		"in a String, with a key":      nodes(0, "", str, 1, "a", one),
		"an object in an outline":      nodes(0, "", outline, 1, "a", list),
		"a String in an outline":       nodes(0, "", outline, 1, "a", str),
		"an object in a node":          nodes(0, "", outline, 1, "a", one, 2, "a", mapping),
		"an object in a first scalar":  nodes(0, "", one, 1, "a", outline),
		"a map without a key":          nodes(0, "", mapping, 1, "", one),
		"a map with a long key":        nodes(0, "", mapping, 1, long, one),
		"a map with a control":         nodes(0, "", mapping, 1, "a\n", one),
		"a map with a broken key":      nodes(0, "", mapping, 1, "\xff", one),
		"a map whose keys fall":        nodes(0, "", mapping, 1, "b", one, 1, "a", one),
		"a map with a key twice":       nodes(0, "", mapping, 1, "a", one, 1, "a", one),
		"a map with a key twice, deep": nodes(0, "", mapping, 1, "a", list, 2, "", one, 1, "a", one),
		"a list with a key":            nodes(0, "", list, 1, "a", one),
		"an outline without a key":     nodes(0, "", outline, 1, "", one),
		"an outline with a long key":   nodes(0, "", outline, 1, long, one),
		"an outline whose keys fall":   nodes(0, "", outline, 1, "b", one, 1, "a", one),
		"a node whose keys fall":       nodes(0, "", one, 1, "b", one, 1, "a", one),
		"a node without a key":         nodes(0, "", one, 1, "", one),
		"More below 0":                 {{Value: one, More: -1}},
		"the text of a Text":           {{Value: text("a"), Text: "a"}},
		"the text of a Map":            {{Value: mapping, Text: "a"}},
		"a broken text":                {{Value: str, Text: "a\xff"}},
		"spans of a Map":               spans(mapping, "", api.Span{To: 1, Name: "a", Value: yes}),
		"an empty span of a Map":       spans(mapping, "", api.Span{Name: "a", Value: yes}),
		"spans of an Int":              spans(one, "", api.Span{To: 1, Name: "a", Value: yes}),
		"a span of an empty List":      spans(list, "", api.Span{To: 1, Name: "a", Value: yes}),
		"a span from below":            spans(str, "ab", api.Span{From: -1, To: 1, Name: "a", Value: yes}),
		"an empty span":                spans(str, "ab", api.Span{From: 1, To: 1, Name: "a", Value: yes}),
		"a span back":                  spans(str, "ab", api.Span{From: 1, To: 0, Name: "a", Value: yes}),
		"a span beyond":                spans(str, "é", api.Span{To: 2, Name: "a", Value: yes}),
		"a span without a name":        spans(str, "ab", api.Span{To: 1, Value: yes}),
		"a span with a long name":      spans(str, "ab", api.Span{To: 1, Name: long, Value: yes}),
		"a span with a wrong value":    spans(str, "ab", api.Span{To: 1, Name: "a", Value: kind(99)}),
		"a span with an object":        spans(str, "ab", api.Span{To: 1, Name: "a", Value: list}),
		"a span with Null":             spans(str, "ab", api.Span{To: 1, Name: "a"}),
		"a span twice":                 spans(str, "ab", api.Span{To: 1, Name: "a", Value: yes}, api.Span{To: 1, Name: "a", Value: one}),
		"spans whose From falls":       spans(str, "ab", api.Span{From: 1, To: 2, Name: "a", Value: yes}, api.Span{To: 2, Name: "b", Value: one}),
		"spans whose To falls":         spans(str, "ab", api.Span{To: 2, Name: "a", Value: yes}, api.Span{To: 1, Name: "b", Value: one}),
		"spans whose Name falls":       spans(str, "ab", api.Span{To: 2, Name: "b", Value: yes}, api.Span{To: 2, Name: "a", Value: one}),
		"the span of a List too long":  {{Value: list, Spans: []api.Span{{To: 2, Name: "a", Value: yes}}}, {Deep: 1, Value: list}, {Deep: 2, Value: one}},
	} {
		if isPart(l) {
			t.Fatalf("%s: it is one", name)
		}
		if Text(l) != "" || Full(l) != "" {
			t.Errorf("%s: Text = %s, Full = %s", name, Text(l), Full(l))
		}
		for _, steps := range [][]api.Step{nil, {byKey("a")}} {
			if n, why := Find(l, steps); n != 0 || why != api.ErrRange {
				t.Errorf("%s: Find = %d, %d", name, n, why)
			}
			if got, why := Part(l, steps); len(got) != 0 || why != api.ErrRange {
				t.Errorf("%s: Part = %v, %d", name, got, why)
			}
		}
		if n, why := Find(l, []api.Step{{}}); n != 0 || why != api.ErrField {
			t.Errorf("%s, and a way that is not right: Find = %d, %d", name, n, why)
		}
	}
	for name, l := range map[string][]api.Node{
		"the longest key":      nodes(0, "", mapping, 1, long[1:], one),
		"a span over all":      spans(str, "éé", api.Span{To: 2, Name: "a", Value: yes}),
		"a span of a List":     {{Value: list, Spans: []api.Span{{To: 2, Name: "a", Value: yes}}}, {Deep: 1, Value: list}, {Deep: 2, Value: one}, {Deep: 1, Value: one}},
		"spans in their order": spans(str, "abc", api.Span{To: 1, Name: "b", Value: yes}, api.Span{To: 2, Name: "a", Value: yes}, api.Span{To: 2, Name: "b", Value: yes}, api.Span{From: 1, To: 2, Name: "a", Value: yes}),
	} {
		if !isPart(l) || Text(l) == "" || Full(l) != wantFull(l) {
			t.Errorf("%s: Text = %s", name, Text(l))
		}
	}
}

// spoil changes one thing of some nodes by chance.
func spoil(r *rand.Rand, l []api.Node) []api.Node {
	l = slices.Clone(l)
	if len(l) == 0 {
		return l
	}
	i := r.Intn(len(l))
	n := &l[i]
	n.Spans = slices.Clone(n.Spans)
	switch r.Intn(12) {
	case 0:
		n.Deep += r.Intn(3) - 1
	case 1:
		n.Key = pick(r, "", "a", "b", "é", "\n", strings.Repeat("x", 65))
	case 2:
		n.Value = pick(r, anyScalar(r), kind(api.Kind(8+r.Intn(5))))
	case 3:
		n.More = r.Intn(3) - 1
	case 4:
		n.Text = pick(r, "", "x", "\xff", "it's")
	case 5:
		n.Spans = append(n.Spans, api.Span{From: r.Intn(3) - 1, To: r.Intn(4), Name: pick(r, "a", "b", ""), Value: pick(r, anyScalar(r), kind(api.Map))})
	case 6:
		if len(n.Spans) > 0 {
			n.Spans = append(n.Spans, n.Spans[0])
		}
	case 7:
		return slices.Delete(l, i, i+1)
	case 8:
		return slices.Insert(l, i, l[r.Intn(len(l))])
	case 9:
		j := r.Intn(len(l))
		l[i], l[j] = l[j], l[i]
	case 10:
		return l[:i]
	case 11:
		n.Id.N--
	}
	return l
}

// anySteps is a way by chance: near one to a node, or not.
func anySteps(r *rand.Rand) []api.Step {
	var steps []api.Step
	for range r.Intn(5) {
		steps = append(steps, pick(r, byKey(pick(r, "a", "b", "b c", "\"", "'", "é", "<")), byIndex(r.Intn(3)), byChild(r.Intn(3))))
	}
	return steps
}

// P15.2 to P15.4: lists of nodes by chance, parts or not, held against the chapter's words
func TestAnyNodes(t *testing.T) {
	r := rand.New(rand.NewSource(2))
	parts := 0
	for range 6000 {
		l := Nodes(anyDoc(r, r.Intn(25)).d)
		if at := r.Intn(len(l)); r.Intn(2) == 0 {
			l = branchAt(l, at).flat(0)
		}
		for range r.Intn(4) {
			l = spoil(r, l)
		}
		if !isPart(l) {
			if Text(l) != "" || Full(l) != "" {
				t.Fatalf("no part: %+v: %s", l, Text(l))
			}
			if n, why := Find(l, anySteps(r)); n != 0 || why != api.ErrRange {
				t.Fatalf("no part: %+v: %d, %d", l, n, why)
			}
			continue
		}
		parts++
		if got, want := Text(l), branchAt(l, 0).text(); got != want || Full(l) != wantFull(l) {
			t.Fatalf("%+v: Text = %s, not %s; Full = %s", l, got, want, Full(l))
		}
		checkWays(t, r, l)
		if l, ok := Parse(Text(l)); (ok == api.OK) != (len(l) > 0) {
			t.Fatalf("Parse: %v, %d", l, ok)
		}
	}
	if parts < 1000 || parts > 5000 {
		t.Errorf("%d parts of 6000", parts)
	}
}

func checkWays(t *testing.T, r *rand.Rand, l []api.Node) {
	t.Helper()
	for range 20 {
		steps := anySteps(r)
		at, why := wantFind(l, steps)
		if n, got := Find(l, steps); n != at || got != why {
			t.Fatalf("%s: Find %v = %d, %d, not %d, %d", Text(l), steps, n, got, at, why)
		}
		cut, got := Part(l, steps)
		if got != why {
			t.Fatalf("Part: %d", got)
		}
		if why == api.OK && !sameNodes(cut, branchAt(l, at).flat(0)) || why != api.OK && len(cut) > 0 {
			t.Fatalf("Part = %v", cut)
		}
	}
}

// P15.4, the second example
func TestFind(t *testing.T) {
	w, _ := sample(t)
	l := Nodes(w.d)
	for s, want := range map[string]struct {
		n   int
		why api.Errno
	}{
		"/": {0, api.OK}, "/a": {1, api.OK}, "/a[0]": {2, api.OK}, "/a[1]": {3, api.OK}, "/a[2]": {0, api.ErrAbsent}, "/a/b": {0, api.ErrSort},
		"/o": {4, api.OK}, "/o~0": {5, api.OK}, "/o~0~0": {6, api.OK}, "/o~1": {0, api.ErrAbsent}, "/o~0~1": {0, api.ErrAbsent}, "/o~0~0~0": {0, api.ErrAbsent}, "/o[0]": {0, api.ErrSort}, "/o/m": {0, api.ErrSort}, "/o~0/a": {0, api.ErrSort},
		"/t": {7, api.OK}, "/t[0]": {0, api.ErrSort}, "/t[99]": {0, api.ErrSort}, "/t~0": {0, api.ErrSort},
		"/z": {8, api.OK}, "/z~0": {0, api.ErrSort}, "/z/a": {0, api.ErrSort}, "/b": {0, api.ErrAbsent}, "/b[0]~0/x": {0, api.ErrAbsent}, "[0]": {0, api.ErrSort}, "~0": {0, api.ErrSort},
		"/a[0]~0": {0, api.ErrSort}, "/a~0": {0, api.ErrSort},
	} {
		if n, why := Find(l, to(t, s)); n != want.n || why != want.why {
			t.Errorf("Find %s = %d, %d", s, n, why)
		}
	}
	one := nodes(0, "k", whole(1))
	for _, c := range []struct {
		step api.Step
		why  api.Errno
	}{{byChild(0), api.ErrAbsent}, {byKey("k"), api.ErrSort}, {byIndex(0), api.ErrSort}} {
		if n, why := Find(one, []api.Step{c.step}); n != 0 || why != c.why {
			t.Errorf("a scalar alone: %d, %d", n, why)
		}
	}
	if n, why := Find(l, slices.Repeat([]api.Step{byKey("b")}, api.MaxSteps+1)); n != 0 || why != api.ErrLong {
		t.Errorf("a long way: %d, %d", n, why)
	}
	if n, why := Find(l, []api.Step{byKey("b"), {Kind: 9}}); n != 0 || why != api.ErrField {
		t.Errorf("a wrong way: %d, %d", n, why)
	}
}

// P15.4
func TestPart(t *testing.T) {
	w, _ := sample(t)
	l := Nodes(w.d)
	for s, want := range map[string]string{"/": sampleText, "/a": `[1,"x"]`, "/a[1]": `"x"`, "/o": `<"m":"x"<"a":"y">>`, "/o~0": `"x"<"a":"y">`, "/o~0~0": `"y"`, "/t": `'it\'s "so"'`, "/z": "2"} {
		got, why := Part(l, to(t, s))
		if why != api.OK || Text(got) != want || got[0].Deep != 0 {
			t.Errorf("Part %s = %s, %d", s, Text(got), why)
		}
	}
	if got, _ := Part(l, to(t, "/z")); got[0].More != 1 || got[0].Key != "z" || got[0].Id.N != w.n {
		t.Errorf("all but Deep stays: %v", got)
	}
	if got, why := Part(l, to(t, "/a[2]")); got != nil || why != api.ErrAbsent {
		t.Errorf("Part = %v, %d", got, why)
	}
}

// P3
func TestAnswersAreNewMemory(t *testing.T) {
	w, _ := sample(t)
	l := Nodes(w.d)
	before := Full(l)
	cut, _ := Part(l, to(t, "/"))
	for i := range cut[:cap(cut)] {
		n := &cut[:cap(cut)][i]
		for j := range n.Spans[:cap(n.Spans)] {
			n.Spans[:cap(n.Spans)][j].Name = "spoilt"
		}
		*n = api.Node{}
	}
	if Full(l) != before || Full(Nodes(w.d)) != before {
		t.Error("a part shares memory")
	}
	for i := range l {
		for j := range l[i].Spans {
			l[i].Spans[j].Name = "spoilt"
		}
		l[i] = api.Node{}
	}
	if Full(Nodes(w.d)) != before {
		t.Error("nodes share memory with the document")
	}
	entries, _ := Others(w.d, to(t, "/z"))
	entries[0] = api.Entry{}
	if Full(Nodes(w.d)) != before {
		t.Error("entries share memory with the document")
	}
	if got, _ := Others(w.d, to(t, "/z")); len(got) != 2 || got[0] == (api.Entry{}) {
		t.Error("entries share memory with others")
	}
}

// P15.2
func TestParse(t *testing.T) {
	for _, s := range []string{
		"{}", sampleText, `{"a":{}}`, `{"a":[]}`, `{"a":''}`, `{"a":<>}`, `{"a":null,"b":true,"c":false}`, `{"a":-1,"b":1.5,"c":1.0e-9,"d":-2.0e30}`, `{"a":"","b":"\"\\\n\u0000","c":x"","d":x"00ff","e":@0,"f":+0,"g":+-3}`,
		`{"a":[[[]]],"b":[{},'',<>,1,"]"]}`, `{"a":<"a":null,"a":null<"a":1,"a":"x"<"z":"<">>,"b":2>}`, `{"a":'\\',"b":'\'',"c":'"',"d":'\\\'"\n\u007f'}`, `{"a,b":",","é":"é"}`,
		`{"a":"` + strings.Repeat("x", api.MaxText) + `"}`, `{"` + strings.Repeat("k", api.MaxKey) + `":1}`, `{"a":'` + strings.Repeat("x", 5000) + `'}`,
	} {
		l, why := Parse(s)
		if why != api.OK || Text(l) != s || !isSound(l) || !sameNodes(l, bare(l)) {
			t.Errorf("Parse(%s) = %v, %d", s, l, why)
		}
		if b, ok := wantParse(s); !ok || !sameNodes(l, b.flat(0)) {
			t.Errorf("Parse(%s) = %v, not %v", s, l, b.flat(0))
		}
	}
}

// P15.2
func TestParseRefuses(t *testing.T) {
	for _, s := range []string{
		"", " ", "{", "}", "{} ", " {}", "{}{}", "{},", "[]", "<>", "''", "1", `"a"`, "null", `1<"a":2>`, "{a:1}", `{"a"}`, `{"a":}`, `{"a":1`, `{"a":1,}`, `{,"a":1}`, `{,}`, `{"a":1,,"b":2}`, `{"a":1;"b":2}`, `{"a" :1}`, `{"a": 1}`, `{"a":1 }`, `{ }`,
		`{"":1}`, `{"b":1,"a":2}`, `{"a":1,"a":2}`, `{"` + strings.Repeat("k", api.MaxKey+1) + `":1}`, `{"\n":1}`, `{"\u0000":1}`, "{\"\xff\":1}", `{"a:1}`, `{'a':1}`, `{1:1}`,
		`{"a":01}`, `{"a":-0}`, `{"a":1.50}`, `{"a":1e5}`, `{"a":nul}`, `{"a":nullx}`, `{"a":True}`, `{"a":@-1}`, `{"a":@9007199254740993}`, `{"a":+}`, `{"a":x"0"}`, `{"a":x"0A"}`, `{"a":x00}`, `{"a":9223372036854775808}`, `{"a":"` + strings.Repeat("x", api.MaxText+1) + `"}`, `{"a":"\'"}`, `{"a":"b}`, "{\"a\":\"\n\"}",
		`{"a":[}`, `{"a":]}`, `{"a":[1}`, `{"a":[1,]}`, `{"a":[,1]}`, `{"a":[1 ,2]}`, `{"a":[1}]`, `{"a":["b":1]}`, `{"a":[1]]}`, `{"a":[1<"a":2>]}`, `{"a":1<"a":2>}`, `{"a":1<>}`, `{"a":[]<>}`, `{"a":''<"a":1>}`, `{"a":<"a":1<>>}`, `{"a":<1>}`, `{"a":<"b":1,"a":2>}`, `{"a":<"":1>}`, `{"a":<"a":{}>}`, `{"a":<"a":[]>}`, `{"a":<"a":''>}`, `{"a":<"a":<>>}`, `{"a":<"a":1<"b":1,"a":2>>}`, `{"a":<"a":1}`, `{"a":<"a":1<"b":2>}`, `{"a":<"a":1,>}`,
		`{"a":'}`, `{"a":'b}`, `{"a":'\'}`, `{"a":'\`, `{"a":'\"'}`, `{"a":'\x'}`, `{"a":'\u0041'}`, `{"a":'\u000a'}`, "{\"a\":'\n'}", "{\"a\":'\xff'}", `{"a":'b'c'}`, `{"a":'\\'b'}`, `{"a":'b'"c"}`, `{"a":"b"'c'}`, `{"a":"b""c"}`,
	} {
		if l, why := Parse(s); len(l) != 0 || why != api.ErrSyntax {
			t.Errorf("Parse(%s) = %v, %d", s, l, why)
		}
		if _, ok := wantParse(s); ok {
			t.Errorf("%s is the text of something", s)
		}
	}
}

// P15.2, P15.8: texts by chance, held against the grammar
func TestParseAnyText(t *testing.T) {
	r := rand.New(rand.NewSource(3))
	bits := []string{"{", "}", "[", "]", "<", ">", "'", "\"", ",", ":", "\\", "1", "null", "\"a\"", "\"b\"", "\"a\":", "\"b\":1", "{}", "[]", "''", "<>", "<\"a\":1>", " ", "é", "\xff", "x\"00\"", "+", "-"}
	taken := 0
	for range 30000 {
		s := Text(Nodes(anyDoc(r, r.Intn(12)).d))
		for range r.Intn(3) {
			at := r.Intn(len(s) + 1)
			size := min(r.Intn(3), len(s)-at)
			s = s[:at] + pick(r, append(bits, "")...) + s[at+size:]
		}
		b, ok := wantParse(s)
		l, why := Parse(s)
		if ok != (why == api.OK) || ok && (!sameNodes(l, b.flat(0)) || Text(l) != s || !isSound(l)) || !ok && (len(l) > 0 || why != api.ErrSyntax) {
			t.Fatalf("Parse(%s) = %v, %d, not %v", s, l, why, ok)
		}
		if ok {
			taken++
		}
	}
	if taken < 5000 || taken > 25000 {
		t.Errorf("%d of 30000 were taken", taken)
	}
}

// deepNodes is n nodes of an outline, each in the one ahead.
func deepNodes(n int) []api.Node {
	l := nodes(0, "", kind(api.Map), 1, "o", kind(api.Outline))
	for i := range n {
		l = append(l, api.Node{Deep: i + 2, Key: "k", Value: whole(i)})
	}
	return l
}

// P1, P6: parts that are as deep, and as wide, as may be
func TestGreatParts(t *testing.T) {
	const size = 1<<16 - 2
	l := deepNodes(size)
	s := Text(l)
	back, why := Parse(s)
	if why != api.OK || len(back) != len(l) || Text(back) != s {
		t.Errorf("a deep text: %d", why)
	}
	maps := strings.Repeat(`{"a":`, size) + "1" + strings.Repeat("}", size)
	if back, why := Parse(maps); why != api.OK || Text(back) != maps {
		t.Errorf("deep maps: %d", why)
	}
	if _, why := Parse(maps[:len(maps)-1]); why != api.ErrSyntax {
		t.Errorf("deep maps that do not end: %d", why)
	}
	wide := nodes(0, "", kind(api.Map), 1, "l", kind(api.List))
	for i := range 200000 {
		wide = append(wide, api.Node{Deep: 2, Value: whole(i)})
	}
	if n, why := Find(wide, []api.Step{byKey("l"), byIndex(199999)}); n != 200001 || why != api.OK {
		t.Errorf("a wide list: %d, %d", n, why)
	}
	if back, why := Parse(Text(wide)); why != api.OK || len(back) != len(wide) {
		t.Errorf("a wide text: %d", why)
	}
	if n, why := Find(l, slices.Concat([]api.Step{byKey("o")}, slices.Repeat([]api.Step{byChild(0)}, api.MaxSteps-1))); n != api.MaxSteps || why != api.OK {
		t.Errorf("a long way: %d, %d", n, why)
	}
	if got := Full(deepNodes(300)); got != wantFull(deepNodes(300)) {
		t.Error("deep lines")
	}
}

// P15.4: a step leads only among those that lie in the node itself, which are many, and have many in them
func TestFindIsNotSlow(t *testing.T) {
	l := nodes(0, "", kind(api.List))
	for range 300 {
		l = append(l, api.Node{Deep: 1, Value: kind(api.List)})
		for range 300 {
			l = append(l, api.Node{Deep: 2, Value: kind(api.List)})
		}
	}
	if n, why := Find(l, []api.Step{byIndex(299), byIndex(299)}); n != len(l)-1 || why != api.OK {
		t.Errorf("Find = %d, %d", n, why)
	}
}
