package patch

import (
	"math"
	"slices"
	"strings"
	"testing"

	"estuary/api"
	"estuary/render"
	"estuary/way"
)

func of(t *testing.T, s string) []api.Node {
	t.Helper()
	l, why := render.Parse(s)
	if why != api.OK {
		t.Fatalf("%s: %d", s, why)
	}
	return l
}

// at is a way as a text says it.
func at(t *testing.T, s string) []api.Step {
	t.Helper()
	l, why, _ := way.Parse(s)
	if why != api.OK {
		t.Fatalf("%s: %d", s, why)
	}
	return l
}

// part is what lies at /k of a document, with another Key.
func part(t *testing.T, s string, key string) []api.Node {
	t.Helper()
	l, why := render.Part(of(t, `{"k":`+s+`}`), steps(byKey("k")))
	if why != api.OK {
		t.Fatalf("%s: %d", s, why)
	}
	l[0].Key = key
	return l
}

// twig is an outline's node with what lies in it.
func twig(t *testing.T, s string) []api.Node {
	t.Helper()
	l, why := render.Part(of(t, `{"k":<`+s+`>}`), steps(byKey("k"), byChild(0)))
	if why != api.OK {
		t.Fatalf("%s: %d", s, why)
	}
	return l
}

// P18.2, P18.3: the examples, and more of their kind; all Ids are zero.
func TestExamples(t *testing.T) {
	for _, x := range []struct{ a, b, want string }{
		{`{"a":1,"b":2}`, `{"b":3,"c":4}`, "drop /a\nset /b 3\nset /c 4\n"},
		{`{"l":[1,2,3]}`, `{"l":[1,3]}`, "set /l[1] 3\ndrop /l[2]\n"},
		{`{"t":'abcd'}`, `{"t":'axd'}`, "text /t 1 2 \"x\"\n"},
		{`{"t":'aaa'}`, `{"t":'aa'}`, "text /t 2 1 \"\"\n"},
		{`{"t":'aa'}`, `{"t":'aaa'}`, "text /t 2 0 \"a\"\n"},
		{`{"t":'日本'}`, `{"t":'日x本'}`, "text /t 1 0 \"x\"\n"},
		{`{"t":''}`, `{"t":'x'}`, "text /t 0 0 \"x\"\n"},
		{`{"t":''}`, `{"t":"x"}`, "set /t \"x\"\n"},
		{`{"a":1}`, `{"a":1}`, ""},
		{`{}`, `{"a":{"b":[1]}}`, "set /a {\"b\":[1]}\n"},
		{`{"a":{"b":[1]}}`, `{"a":{"b":[1,{}],"c":null}}`, "insert /a/b[1] {}\nset /a/c null\n"},
		{`{"a":1.0}`, `{"a":1}`, "set /a 1\n"},
		{`{"o":<"a":1,"c":2>}`, `{"o":<"a":1<"x":5>,"b":7,"c":3>}`, "insert /o~0~0 5\ninsert /o~1 7\nset /o~2 3\n"},
		{`{"o":<"a":1<"x":5,"y":6>>}`, `{"o":<"a":1<"y":6>>}`, "drop /o~0~0\n"},
		{`{"o":<"a":1>}`, `{"o":<"b":1>}`, "drop /o~0\ninsert /o~0 1\n"},
		{`{"l":[[1],[2]]}`, `{"l":[[1],[2,3]]}`, "insert /l[1][1] 3\n"},
	} {
		a, b := of(t, x.a), of(t, x.b)
		l := Diff(a, b)
		if got := lines(l); got != x.want {
			t.Errorf("%s to %s:\n%s", x.a, x.b, got)
		}
		if got, why := Do(a, l); why != api.OK || !sameNodes(got, b) {
			t.Errorf("%s to %s, done: %s, %d", x.a, x.b, render.Text(got), why)
		}
	}
}

// P18.2: the second example with unlike Ids, and what is alike from the end on.
func TestAlike(t *testing.T) {
	of := func(ids ...int) []api.Node {
		l := []api.Node{{Value: kindAlone(api.Map)}, {Deep: 1, Key: "l", Value: kindAlone(api.List)}}
		for _, n := range ids {
			l = append(l, api.Node{Deep: 2, Id: api.Id{Hash: api.Hash{1}, N: n % 100}, Value: whole(n)})
		}
		return l
	}
	for _, x := range []struct {
		a, b []int
		want string
	}{
		{[]int{1, 2, 3}, []int{1, 3}, "drop /l[1]\n"},
		{[]int{1, 3}, []int{1, 2, 3}, "insert /l[1] 2\n"},
		{[]int{1, 2, 3, 4, 5}, []int{1, 7, 8, 104, 5}, "drop /l[1]\ndrop /l[1]\ninsert /l[1] 7\ninsert /l[2] 8\nset /l[3] 104\n"},
		{[]int{1, 2, 3}, []int{101, 2, 103}, "set /l[0] 101\nset /l[2] 103\n"},
		{[]int{1, 2}, []int{2, 1}, "drop /l[0]\ndrop /l[0]\ninsert /l[0] 2\ninsert /l[1] 1\n"},
		{[]int{1, 1}, []int{1}, "drop /l[1]\n"},
		{nil, []int{1, 2}, "insert /l[0] 1\ninsert /l[1] 2\n"},
		{[]int{1, 2}, nil, "drop /l[0]\ndrop /l[0]\n"},
	} {
		l := Diff(of(x.a...), of(x.b...))
		if got := lines(l); got != x.want {
			t.Errorf("%v to %v:\n%s", x.a, x.b, got)
		}
		if got, why := Do(of(x.a...), l); why != api.OK || !sameNodes(got, of(x.b...)) {
			t.Errorf("%v to %v, done: %d", x.a, x.b, why)
		}
	}
}

// P18.2: Ids, other values and marks.
func TestMoreAndSpans(t *testing.T) {
	span := func(from, to int) []api.Span { return []api.Span{{From: from, To: to, Name: "b", Value: whole(1)}} }
	a, b := of(t, `{"l":[1,2],"t":'ab'}`), of(t, `{"l":[1,2],"t":'ab'}`)
	b[1].Id, b[1].More = api.Id{Hash: api.Hash{0xab, 0xcd}, N: 3}, 2
	b[2].More = 1
	for _, x := range []struct {
		name       string
		old, now   []api.Span
		text, want string
		value      int
	}{
		{"none", nil, nil, "ab", "", 1},
		{"new ones", nil, span(0, 1), "ab", "spans /l 0-1:\"b\"=1\n spans /t 0-1:\"b\"=1\n", 1},
		{"those that go", span(0, 1), nil, "ab", "spans /l\n spans /t\n", 1},
		{"the same", span(0, 1), span(0, 1), "ab", "", 1},
		{"those that stay, though what lies there changes", span(0, 1), span(0, 1), "aa", "set /l[0] 9\n spans /l 0-1:\"b\"=1\n text /t 1 1 \"a\"\n spans /t 0-1:\"b\"=1\n", 9},
		{"those that go with what changes", span(0, 1), nil, "aa", "set /l[0] 9\n text /t 1 1 \"a\"\n", 9},
	} {
		a[1].Spans, a[4].Spans, b[1].Spans, b[4].Spans = x.old, x.old, x.now, x.now
		b[2].Value, b[4].Text = whole(x.value), x.text
		l := Diff(a, b)
		want := "more /l abcd0000.3 +2\n" + strings.ReplaceAll(x.want, "\n ", "\n")
		if x.value == 1 {
			want = "more /l abcd0000.3 +2\nmore /l[0] 00000000.0 +1\n" + strings.ReplaceAll(x.want, "\n ", "\n")
		}
		if got := lines(l); got != want {
			t.Errorf("%s:\n%s", x.name, got)
		}
		if got, why := Do(a, l); why != api.OK || !sameNodes(got, b) {
			t.Errorf("%s, done: %d", x.name, why)
		}
	}
}

// P18.2: what lies deeper than ways go is set whole.
func TestDeeperThanWays(t *testing.T) {
	tower := func(deep int, inner string) []api.Node {
		return of(t, strings.Repeat(`{"k":`, deep)+inner+strings.Repeat("}", deep))
	}
	w := strings.Repeat("/k", api.MaxSteps)
	for _, x := range []struct{ a, b, want string }{
		{"[1]", "[1]", ""},
		{"[1]", "[2]", "set " + w + " [2]\n"},
		{"[[[1]]]", "[[[2]]]", "set " + w + " [[[2]]]\n"},
		{"'a'", "'b'", "set " + w + " 'b'\n"},
		{"1", "2", "set " + w + " 2\n"},
		{"{}", `{"a":1}`, "set " + w + " {\"a\":1}\n"},
		{`<"a":1<"b":2>>`, `<"a":1<"b":3>>`, "set " + w + " <\"a\":1<\"b\":3>>\n"},
	} {
		a, b := tower(api.MaxSteps, x.a), tower(api.MaxSteps, x.b)
		l := Diff(a, b)
		if got := lines(l); got != x.want {
			t.Errorf("%s to %s:\n%s", x.a, x.b, got)
		}
		if got, why := Do(a, l); why != api.OK || !sameNodes(got, b) {
			t.Errorf("%s to %s, done: %d", x.a, x.b, why)
		}
	}
	if got := lines(Diff(tower(api.MaxSteps-1, "[1]"), tower(api.MaxSteps-1, "[2]"))); got != "set "+w[2:]+"[0] 2\n" {
		t.Errorf("one less deep: %s", got)
	}
	a, b := tower(api.MaxSteps, "'a'"), tower(api.MaxSteps, "'a'")
	last := len(b) - 1
	b[last].More = 1
	if got := lines(Diff(a, b)); got != "more "+w+" 00000000.0 +1\n" {
		t.Errorf("more: %s", got)
	}
	b[last].Spans = []api.Span{{To: 1, Name: "b", Value: whole(1)}}
	l := Diff(a, b)
	if got := lines(l); got != "more "+w+" 00000000.0 +1\nset "+w+" 'a'\n" {
		t.Errorf("marks: %s", got)
	}
	if got, why := Do(a, l); why != api.OK || !sameNodes(got, b) {
		t.Errorf("marks, done: %d", why)
	}
	// A List whose element was set whole has lost its marks by that.
	a, b = tower(api.MaxSteps-1, "[[1]]"), tower(api.MaxSteps-1, "[[2]]")
	a[api.MaxSteps-1].Spans = []api.Span{{To: 1, Name: "b", Value: whole(1)}}
	b[api.MaxSteps-1].Spans = a[api.MaxSteps-1].Spans
	l = Diff(a, b)
	if got := lines(l); got != "set "+w[2:]+"[0] [2]\nspans "+w[2:]+" 0-1:\"b\"=1\n" {
		t.Errorf("marks of the list: %s", got)
	}
	if got, why := Do(a, l); why != api.OK || !sameNodes(got, b) {
		t.Errorf("marks of the list, done: %d", why)
	}
}

// P18.1: what is wrong with nodes.
func TestSound(t *testing.T) {
	root := api.Node{Value: kindAlone(api.Map)}
	with := func(change func(n *api.Node), rest ...api.Node) []api.Node {
		n := root
		change(&n)
		return append([]api.Node{n}, rest...)
	}
	deep := []api.Node{root, {Deep: 1, Key: "o", Value: kindAlone(api.Outline)}}
	for n := range 3 * api.MaxSteps {
		deep = append(deep, api.Node{Deep: n + 2, Key: "k", Value: whole(1)})
	}
	for name, x := range map[string]struct {
		l   []api.Node
		why api.Errno
	}{
		"none":                     {nil, api.ErrPatch},
		"the root":                 {[]api.Node{root}, api.OK},
		"a document":               {of(t, `{"a":[1,{}],"o":<"a":1<"a":2>>,"t":'x'}`), api.OK},
		"deeper than ways go":      {deep, api.OK},
		"a part that is no root":   {part(t, "[1]", ""), api.ErrPatch},
		"a scalar":                 {[]api.Node{{}}, api.ErrPatch},
		"a root with a Key":        {with(func(n *api.Node) { n.Key = "a" }), api.ErrPatch},
		"with an Id":               {with(func(n *api.Node) { n.Id.N = 1 }), api.ErrPatch},
		"with a Hash":              {with(func(n *api.Node) { n.Id.Hash[31] = 1 }), api.ErrPatch},
		"with More":                {with(func(n *api.Node) { n.More = 1 }), api.ErrPatch},
		"with More below 0":        {with(func(n *api.Node) { n.More = -1 }), api.ErrPatch},
		"with Text":                {with(func(n *api.Node) { n.Text = "a" }), api.ErrPatch},
		"with Spans":               {with(func(n *api.Node) { n.Spans = []api.Span{{To: 1, Name: "a", Value: whole(1)}} }), api.ErrPatch},
		"with Spans of no length":  {with(func(n *api.Node) { n.Spans = []api.Span{} }), api.OK},
		"with a number":            {with(func(n *api.Node) { n.Value.N = 1 }), api.ErrPatch},
		"with a float":             {with(func(n *api.Node) { n.Value.F = math.Copysign(0, -1) }), api.ErrPatch},
		"Deep 1":                   {with(func(n *api.Node) { n.Deep = 1 }), api.ErrPatch},
		"two roots":                {[]api.Node{root, root}, api.ErrPatch},
		"a key twice":              {[]api.Node{root, {Deep: 1, Key: "a"}, {Deep: 1, Key: "a"}}, api.ErrPatch},
		"keys that fall":           {[]api.Node{root, {Deep: 1, Key: "b"}, {Deep: 1, Key: "a"}}, api.ErrPatch},
		"too deep":                 {[]api.Node{root, {Deep: 2, Key: "a"}}, api.ErrPatch},
		"below 0":                  {[]api.Node{root, {Deep: -1, Key: "a"}}, api.ErrPatch},
		"in a scalar":              {[]api.Node{root, {Deep: 1, Key: "a"}, {Deep: 2, Key: "a"}}, api.ErrPatch},
		"in a String":              {[]api.Node{root, {Deep: 1, Key: "a", Value: kindAlone(api.String)}, {Deep: 2}}, api.ErrPatch},
		"an object in an Outline":  {[]api.Node{root, {Deep: 1, Key: "a", Value: kindAlone(api.Outline)}, {Deep: 2, Key: "a", Value: kindAlone(api.Map)}}, api.ErrPatch},
		"a float that is no value": {[]api.Node{root, {Deep: 1, Key: "a", Value: api.Value{Kind: api.Float, F: math.NaN()}}}, api.ErrPatch},
		"no kind":                  {[]api.Node{root, {Deep: 1, Key: "a", Value: kindAlone(200)}}, api.ErrPatch},
	} {
		if why := Sound(x.l); why != x.why {
			t.Errorf("%s: %d", name, why)
		}
		if x.why == api.OK {
			continue
		}
		good := of(t, `{"a":1}`)
		if len(Diff(x.l, good)) > 0 || len(Diff(good, x.l)) > 0 || len(Diff(x.l, x.l)) > 0 {
			t.Errorf("%s: patches", name)
		}
		if l, why := Do(x.l, nil); why != api.ErrPatch || len(l) > 0 {
			t.Errorf("%s: done, %d", name, why)
		}
	}
}

const world = `{"l":[1,[2],3],"m":{"a":1,"c":2},"n":5,"o":<"b":1<"m":2>,"b":3,"d":4>,"t":'añb'}`

// P18.3: which patches fit, row by row of the chapter's table.
func TestFits(t *testing.T) {
	nodes := func(s, key string) []api.Node { return part(t, s, key) }
	text := func(at, count int, s string) api.Patch {
		return api.Patch{Kind: api.PatchText, At: at, Count: count, Text: s}
	}
	set, ins, drop := api.PatchSet, api.PatchInsert, api.PatchDrop
	for _, x := range []struct {
		way  string
		p    api.Patch
		want string // empty: it does not fit
	}{
		// Set by a key
		{"/a", api.Patch{Kind: set, Nodes: nodes("7", "a")}, `{"a":7,` + world[1:]},
		{"/z", api.Patch{Kind: set, Nodes: nodes("[1,{}]", "z")}, world[:len(world)-1] + `,"z":[1,{}]}`},
		{"/m/b", api.Patch{Kind: set, Nodes: nodes("7", "b")}, strings.Replace(world, `"c":2`, `"b":7,"c":2`, 1)},
		{"/m", api.Patch{Kind: set, Nodes: nodes("'x'", "m")}, strings.Replace(world, `{"a":1,"c":2}`, `'x'`, 1)},
		{"/m", api.Patch{Kind: set, Nodes: nodes("7", "n")}, ""},
		{"/m", api.Patch{Kind: set, Nodes: nodes("7", "")}, ""},
		{"/x/y", api.Patch{Kind: set, Nodes: nodes("7", "y")}, ""},
		{"/n/y", api.Patch{Kind: set, Nodes: nodes("7", "y")}, ""},
		{"/l/y", api.Patch{Kind: set, Nodes: nodes("7", "y")}, ""},
		{"/o/b", api.Patch{Kind: set, Nodes: nodes("7", "b")}, ""},
		{"/m/a", api.Patch{Kind: set, Nodes: twig(t, `"a":1<"b":2>`)}, ""},
		{"/m/a", api.Patch{Kind: set}, ""},
		{"/", api.Patch{Kind: set, Nodes: nodes("{}", "")}, ""},
		// Set by an index, or a child
		{"/l[0]", api.Patch{Kind: set, Nodes: nodes("{}", "")}, strings.Replace(world, "[1,", "[{},", 1)},
		{"/l[2]", api.Patch{Kind: set, Nodes: nodes("9", "")}, strings.Replace(world, ",3]", ",9]", 1)},
		{"/l[3]", api.Patch{Kind: set, Nodes: nodes("9", "")}, ""},
		{"/l[0]", api.Patch{Kind: set, Nodes: nodes("9", "a")}, ""},
		{"/l~0", api.Patch{Kind: set, Nodes: nodes("9", "")}, ""},
		{"/l[0]", api.Patch{Kind: set, Nodes: twig(t, `"a":1<"b":2>`)}, ""},
		{"/t[0]", api.Patch{Kind: set, Nodes: nodes("\"x\"", "")}, ""},
		{"[0]", api.Patch{Kind: set, Nodes: nodes("9", "")}, ""},
		{"/o~0", api.Patch{Kind: set, Nodes: nodes("9", "a")}, strings.Replace(world, `"b":1<"m":2>`, `"a":9`, 1)},
		{"/o~0", api.Patch{Kind: set, Nodes: twig(t, `"b":1<"q":2<"r":3>>`)}, strings.Replace(world, `<"m":2>`, `<"q":2<"r":3>>`, 1)},
		{"/o~0", api.Patch{Kind: set, Nodes: nodes("9", "c")}, ""},
		{"/o~1", api.Patch{Kind: set, Nodes: nodes("9", "a")}, ""},
		{"/o~1", api.Patch{Kind: set, Nodes: nodes("9", "e")}, ""},
		{"/o~1", api.Patch{Kind: set, Nodes: nodes("9", "c")}, strings.Replace(world, `"b":3`, `"c":9`, 1)},
		{"/o~1", api.Patch{Kind: set, Nodes: nodes("9", "")}, ""},
		{"/o~1", api.Patch{Kind: set, Nodes: nodes("{}", "b")}, ""},
		{"/o~3", api.Patch{Kind: set, Nodes: nodes("9", "z")}, ""},
		{"/o~0~0", api.Patch{Kind: set, Nodes: nodes("9", "a")}, strings.Replace(world, `"m":2`, `"a":9`, 1)},
		{"/n~0", api.Patch{Kind: set, Nodes: nodes("9", "a")}, ""},
		{"/l~1[0]", api.Patch{Kind: set, Nodes: nodes("9", "")}, ""},
		{"/o[0]~0", api.Patch{Kind: set, Nodes: nodes("9", "m")}, ""},
		{"~2/a", api.Patch{Kind: set, Nodes: nodes("9", "a")}, ""},
		// Drop
		{"/m", api.Patch{Kind: drop}, strings.Replace(world, `"m":{"a":1,"c":2},`, "", 1)},
		{"/l[1]", api.Patch{Kind: drop}, strings.Replace(world, `,[2]`, "", 1)},
		{"/l[1][0]", api.Patch{Kind: drop}, strings.Replace(world, `[2]`, "[]", 1)},
		{"/o~0", api.Patch{Kind: drop}, strings.Replace(world, `"b":1<"m":2>,`, "", 1)},
		{"/o~0~0", api.Patch{Kind: drop}, strings.Replace(world, `<"m":2>`, "", 1)},
		{"/", api.Patch{Kind: drop}, ""},
		{"/x", api.Patch{Kind: drop}, ""},
		{"/l[3]", api.Patch{Kind: drop}, ""},
		{"/t[0]", api.Patch{Kind: drop}, ""},
		{"/l~0", api.Patch{Kind: drop}, ""},
		{"/n~0", api.Patch{Kind: drop}, ""},
		// Insert
		{"/l[0]", api.Patch{Kind: ins, Nodes: nodes("9", "")}, strings.Replace(world, "[1,", "[9,1,", 1)},
		{"/l[3]", api.Patch{Kind: ins, Nodes: nodes("[[]]", "")}, strings.Replace(world, ",3]", ",3,[[]]]", 1)},
		{"/l[4]", api.Patch{Kind: ins, Nodes: nodes("9", "")}, ""},
		{"/l[2147483647]", api.Patch{Kind: ins, Nodes: nodes("9", "")}, ""},
		{"/l[0]", api.Patch{Kind: ins, Nodes: nodes("9", "a")}, ""},
		{"/l[0]", api.Patch{Kind: ins}, ""},
		{"/m/b", api.Patch{Kind: ins, Nodes: nodes("9", "b")}, ""},
		{"/t[0]", api.Patch{Kind: ins, Nodes: nodes("9", "")}, ""},
		{"/n~0", api.Patch{Kind: ins, Nodes: nodes("9", "a")}, ""},
		{"/m~0", api.Patch{Kind: ins, Nodes: nodes("9", "a")}, ""},
		{"/l[0]~0", api.Patch{Kind: ins, Nodes: nodes("9", "a")}, ""},
		{"/o~0", api.Patch{Kind: ins, Nodes: nodes("9", "b")}, strings.Replace(world, `<"b":1`, `<"b":9,"b":1`, 1)},
		{"/o~0", api.Patch{Kind: ins, Nodes: nodes("9", "c")}, ""},
		{"/o~2", api.Patch{Kind: ins, Nodes: nodes("9", "c")}, strings.Replace(world, `"d":4`, `"c":9,"d":4`, 1)},
		{"/o~3", api.Patch{Kind: ins, Nodes: nodes("9", "d")}, strings.Replace(world, `"d":4`, `"d":4,"d":9`, 1)},
		{"/o~3", api.Patch{Kind: ins, Nodes: nodes("9", "c")}, ""},
		{"/o~1~0", api.Patch{Kind: ins, Nodes: nodes("9", "a")}, strings.Replace(world, `"b":3`, `"b":3<"a":9>`, 1)},
		{"/o~0~0~0", api.Patch{Kind: ins, Nodes: twig(t, `"a":1<"b":2>`)}, strings.Replace(world, `"m":2`, `"m":2<"a":1<"b":2>>`, 1)},
		{"/o~1~1", api.Patch{Kind: ins, Nodes: nodes("9", "a")}, ""},
		{"/o~1~0", api.Patch{Kind: ins, Nodes: nodes("'x'", "a")}, ""},
		{"/", api.Patch{Kind: ins, Nodes: nodes("{}", "")}, ""},
		// Text
		{"/t", text(0, 0, ""), world},
		{"/t", text(1, 1, "xy"), strings.Replace(world, "añb", "axyb", 1)},
		{"/t", text(3, 0, "'"), strings.Replace(world, "añb", "añb\\'", 1)},
		{"/t", text(0, 3, ""), strings.Replace(world, "añb", "", 1)},
		{"/t", text(0, 4, ""), ""},
		{"/t", text(4, 0, ""), ""},
		{"/t", text(-1, 1, ""), ""},
		{"/t", text(1, -1, ""), ""},
		{"/t", text(math.MaxInt, math.MaxInt, ""), ""},
		{"/t", text(1, math.MaxInt, ""), ""},
		{"/t", text(math.MinInt, math.MinInt, ""), ""},
		{"/t", text(0, 0, "\xff"), ""},
		{"/l", text(0, 0, ""), ""},
		{"/x", text(0, 0, ""), ""},
		{"/", text(0, 0, ""), ""},
		// kinds that are none
		{"/m", api.Patch{}, ""},
		{"/m", api.Patch{Kind: 7, Nodes: nodes("1", "m")}, ""},
		{"/m", api.Patch{Kind: 255, Nodes: nodes("1", "m")}, ""},
	} {
		x.p.Way = at(t, x.way)
		want := x.want
		got, why := Do(of(t, world), []api.Patch{x.p})
		if want == "" && (why != api.ErrPatch || len(got) > 0) || want != "" && (why != api.OK || !sameNodes(got, of(t, want))) {
			t.Errorf("%s: %s, %d", lines([]api.Patch{x.p}), render.Text(got), why)
		}
	}
}

// P18.3: Nodes that are no part; ways that are not right; fields that a kind does not use.
func TestFitsMore(t *testing.T) {
	two := []api.Node{{}, {}}
	deep := []api.Node{{Deep: 1}}
	long := make([]api.Step, api.MaxSteps+1)
	for i := range long {
		long[i] = byKey("m")
	}
	wrong := api.Patch{Kind: api.PatchSet, Way: steps(byKey("n")), Nodes: []api.Node{{Key: "n", Value: api.Value{Kind: api.Int, S: "x"}}}}
	for name, p := range map[string]api.Patch{
		"two parts":        {Kind: api.PatchInsert, Way: steps(byKey("l"), byIndex(0)), Nodes: two},
		"a part that ends": {Kind: api.PatchSet, Way: steps(byKey("l"), byIndex(0)), Nodes: deep},
		"a wrong value":    wrong,
		"no step":          {Kind: api.PatchDrop, Way: steps(api.Step{Kind: 9})},
		"a key with N":     {Kind: api.PatchDrop, Way: steps(api.Step{Kind: api.ByKey, Key: "n", N: 1})},
		"an index below 0": {Kind: api.PatchDrop, Way: steps(byKey("l"), byIndex(-1))},
		"a long index":     {Kind: api.PatchInsert, Way: steps(byKey("l"), byIndex(math.MaxInt)), Nodes: []api.Node{{}}},
		"a long way":       {Kind: api.PatchDrop, Way: long},
		"a key that isn't": {Kind: api.PatchSet, Way: steps(byKey("\n")), Nodes: []api.Node{{Key: "\n"}}},
		"an empty key":     {Kind: api.PatchSet, Way: steps(byKey("")), Nodes: []api.Node{{}}},
	} {
		if got, why := Do(of(t, world), []api.Patch{p}); why != api.ErrPatch || len(got) > 0 {
			t.Errorf("%s: %s, %d", name, render.Text(got), why)
		}
	}
	junk := api.Patch{Nodes: two, At: -1, Count: -1, Text: "\xff", Spans: []api.Span{{From: -1}}}
	for name, p := range map[string]api.Patch{
		"Drop":  {Kind: api.PatchDrop, Way: steps(byKey("n")), Nodes: junk.Nodes, At: junk.At, Count: junk.Count, Text: junk.Text, Spans: junk.Spans},
		"Set":   {Kind: api.PatchSet, Way: steps(byKey("n")), Nodes: part(t, "1", "n"), At: junk.At, Count: junk.Count, Text: junk.Text, Spans: junk.Spans},
		"Text":  {Kind: api.PatchText, Way: steps(byKey("t")), Nodes: junk.Nodes, Spans: junk.Spans},
		"Spans": {Kind: api.PatchSpans, Way: steps(byKey("t")), Nodes: junk.Nodes, At: junk.At, Count: junk.Count, Text: junk.Text},
		"More":  {Kind: api.PatchMore, Way: steps(byKey("t")), Nodes: deep, At: junk.At, Count: junk.Count, Text: junk.Text, Spans: junk.Spans},
	} {
		if _, why := Do(of(t, world), []api.Patch{p}); why != api.OK {
			t.Errorf("%s with fields that it does not use: %d", name, why)
		}
	}
}

// P18.3: More and Spans, and by what Spans go.
func TestMarks(t *testing.T) {
	span := func(from, to int, name string, v api.Value) api.Span {
		return api.Span{From: from, To: to, Name: name, Value: v}
	}
	one := whole(1)
	good := []api.Span{span(0, 3, "a", one)}
	for name, x := range map[string]struct {
		way string
		l   []api.Span
		fit bool
	}{
		"a List":            {"/l", good, true},
		"a String":          {"/t", good, true},
		"none":              {"/t", nil, true},
		"in their order":    {"/t", []api.Span{span(0, 1, "a", one), span(0, 1, "b", one), span(0, 2, "a", one), span(1, 2, "a", one)}, true},
		"one twice":         {"/t", []api.Span{span(0, 1, "a", one), span(0, 1, "a", whole(2))}, false},
		"names that fall":   {"/t", []api.Span{span(0, 1, "b", one), span(0, 1, "a", one)}, false},
		"ends that fall":    {"/t", []api.Span{span(0, 2, "a", one), span(0, 1, "a", one)}, false},
		"fronts that fall":  {"/t", []api.Span{span(1, 2, "a", one), span(0, 2, "a", one)}, false},
		"beyond the List":   {"/l", []api.Span{span(0, 4, "a", one)}, false},
		"beyond the String": {"/t", []api.Span{span(0, 4, "a", one)}, false},
		"empty":             {"/t", []api.Span{span(1, 1, "a", one)}, false},
		"below 0":           {"/t", []api.Span{span(-1, 1, "a", one)}, false},
		"Null":              {"/t", []api.Span{span(0, 1, "a", api.Value{})}, false},
		"an object":         {"/t", []api.Span{span(0, 1, "a", kindAlone(api.Map))}, false},
		"no value":          {"/t", []api.Span{span(0, 1, "a", api.Value{Kind: api.Bool, N: 2})}, false},
		"no name":           {"/t", []api.Span{span(0, 1, "", one)}, false},
		"a wrong name":      {"/t", []api.Span{span(0, 1, "\n", one)}, false},
		"a Map":             {"/m", nil, false},
		"an Outline":        {"/o", nil, false},
		"a scalar":          {"/n", nil, false},
		"the root":          {"/", nil, false},
		"nothing":           {"/x", nil, false},
	} {
		got, why := Do(of(t, world), []api.Patch{{Kind: api.PatchSpans, Way: at(t, x.way), Spans: x.l}})
		if x.fit != (why == api.OK) || !x.fit && why != api.ErrPatch {
			t.Errorf("%s: %d", name, why)
			continue
		}
		if n, _ := render.Find(got, at(t, x.way)); x.fit && !sameSpans(got[n].Spans, x.l) {
			t.Errorf("%s: %v", name, got[n].Spans)
		}
	}
	marked := of(t, world)
	for i, n := range marked {
		if n.Value.Kind == api.List && n.Deep == 1 || n.Value.Kind == api.String {
			marked[i].Spans = good
		}
	}
	for name, x := range map[string]struct {
		p       api.Patch
		l, text bool // whether the marks of the List, and of the String, stay
	}{
		"Set":             {api.Patch{Kind: api.PatchSet, Way: at(t, "/l[0]"), Nodes: part(t, "1", "")}, false, true},
		"Drop":            {api.Patch{Kind: api.PatchDrop, Way: at(t, "/l[2]")}, false, true},
		"Insert":          {api.Patch{Kind: api.PatchInsert, Way: at(t, "/l[3]"), Nodes: part(t, "1", "")}, false, true},
		"Text":            {api.Patch{Kind: api.PatchText, Way: at(t, "/t")}, true, false},
		"Set deeper":      {api.Patch{Kind: api.PatchSet, Way: at(t, "/l[1][0]"), Nodes: part(t, "1", "")}, true, true},
		"Drop deeper":     {api.Patch{Kind: api.PatchDrop, Way: at(t, "/l[1][0]")}, true, true},
		"Insert deeper":   {api.Patch{Kind: api.PatchInsert, Way: at(t, "/l[1][1]"), Nodes: part(t, "1", "")}, true, true},
		"More":            {api.Patch{Kind: api.PatchMore, Way: at(t, "/l[1]"), Nodes: []api.Node{{More: 3}}}, true, true},
		"More of itself":  {api.Patch{Kind: api.PatchMore, Way: at(t, "/l"), Nodes: []api.Node{{More: 3}}}, true, true},
		"Spans deeper":    {api.Patch{Kind: api.PatchSpans, Way: at(t, "/l[1]")}, true, true},
		"something there": {api.Patch{Kind: api.PatchDrop, Way: at(t, "/n")}, true, true},
	} {
		got, why := Do(marked, []api.Patch{x.p})
		if why != api.OK {
			t.Errorf("%s: %d", name, why)
			continue
		}
		l, _ := render.Find(got, at(t, "/l"))
		s, _ := render.Find(got, at(t, "/t"))
		if (len(got[l].Spans) > 0) != x.l || (len(got[s].Spans) > 0) != x.text {
			t.Errorf("%s: %v, %v", name, got[l].Spans, got[s].Spans)
		}
	}
	for name, x := range map[string]struct {
		way string
		l   []api.Node
		fit bool
	}{
		"one":          {"/o~0", []api.Node{{Id: api.Id{N: 4}, More: 5}}, true},
		"not the rest": {"/o~0", []api.Node{{Deep: 9, Key: "q", More: 5, Value: kindAlone(99), Text: "x"}}, true},
		"the root":     {"/", []api.Node{{}}, false},
		"nothing":      {"/x", []api.Node{{}}, false},
		"a List's":     {"/l~0", []api.Node{{}}, false},
		"an Outline's": {"/o[0]", []api.Node{{}}, false},
		"no node":      {"/n", nil, false},
		"two":          {"/n", make([]api.Node, 2), false},
		"below 0":      {"/n", []api.Node{{More: -1}}, false},
	} {
		got, why := Do(of(t, world), []api.Patch{{Kind: api.PatchMore, Way: at(t, x.way), Nodes: x.l}})
		if x.fit != (why == api.OK) || !x.fit && why != api.ErrPatch {
			t.Errorf("More, %s: %d", name, why)
			continue
		}
		if n, _ := render.Find(got, at(t, x.way)); x.fit && (got[n].More != x.l[0].More || got[n].Id != x.l[0].Id || render.Text(got) != world) {
			t.Errorf("More, %s: %v", name, got[n])
		}
	}
}

// P18.4
func TestPrint(t *testing.T) {
	w := steps(byKey("a b"), byIndex(3), byChild(0))
	id := api.Id{Hash: api.Hash{0xde, 0xad, 0xbe, 0xef, 1}, N: 12}
	for _, x := range []struct {
		p    api.Patch
		want string
	}{
		{api.Patch{Kind: api.PatchSet, Way: w, Nodes: part(t, `{"x":[1,'y']}`, "q")}, `set /"a b"[3]~0 {"x":[1,'y']}`},
		{api.Patch{Kind: api.PatchSet, Way: w}, `set /"a b"[3]~0 `},
		{api.Patch{Kind: api.PatchSet, Nodes: []api.Node{{Deep: 1}}}, `set / `},
		{api.Patch{Kind: api.PatchDrop, Way: w, Nodes: part(t, `1`, ""), Text: "x"}, `drop /"a b"[3]~0`},
		{api.Patch{Kind: api.PatchDrop}, `drop /`},
		{api.Patch{Kind: api.PatchInsert, Way: w, Nodes: twig(t, `"a":1<"b":2>`)}, `insert /"a b"[3]~0 1<"b":2>`},
		{api.Patch{Kind: api.PatchText, Way: w, At: 3, Count: 4, Text: "\"\n"}, `text /"a b"[3]~0 3 4 "\"\n"`},
		{api.Patch{Kind: api.PatchText, At: -3, Count: math.MinInt, Text: "\xff"}, `text / -3 -9223372036854775808 `},
		{api.Patch{Kind: api.PatchSpans, Way: w}, `spans /"a b"[3]~0`},
		{api.Patch{Kind: api.PatchSpans, Way: w, Spans: []api.Span{{From: 1, To: 2, Name: "b c", Value: whole(-1)}, {From: -1, Name: "\xff", Value: kindAlone(99)}}}, `spans /"a b"[3]~0 1-2:"b c"=-1 -1-0:=`},
		{api.Patch{Kind: api.PatchMore, Way: w, Nodes: []api.Node{{Id: id, More: 7}, {More: 8}}}, `more /"a b"[3]~0 deadbeef.12 +7`},
		{api.Patch{Kind: api.PatchMore, Way: w}, `more /"a b"[3]~0 00000000.0 +0`},
		{api.Patch{Kind: api.PatchMore, Nodes: []api.Node{{Id: api.Id{N: -1}, More: -1}}}, `more / 00000000.-1 +-1`},
		{api.Patch{Way: w}, ""},
		{api.Patch{Kind: 7, Way: w}, ""},
		{api.Patch{Kind: 255, Way: w}, ""},
		{api.Patch{Kind: api.PatchDrop, Way: steps(api.Step{})}, ""},
		{api.Patch{Kind: api.PatchDrop, Way: steps(byIndex(-1))}, ""},
		{api.Patch{Kind: api.PatchDrop, Way: make([]api.Step, api.MaxSteps+1)}, ""},
	} {
		if got := Print(x.p); got != x.want {
			t.Errorf("%q, not %q", got, x.want)
		}
	}
}

// P18.2, P18.5, P18.6: by the chapter's words, of documents by chance.
func TestDiffByDefinition(t *testing.T) {
	m := newMaker(2)
	met := map[api.PatchKind]int{}
	for range 6000 {
		a, b := m.pair()
		l, want := Diff(a, b), modelDiff(nil, a, b)
		if !samePatches(l, want) {
			t.Fatalf("%s\nto %s:\n%s\nnot\n%s", render.Text(a), render.Text(b), lines(l), lines(want))
		}
		if got, why := Do(a, l); why != api.OK || !sameNodes(got, b) {
			t.Fatalf("%s\nto %s:\n%s\ndone: %s, %d", render.Text(a), render.Text(b), lines(l), render.Text(got), why)
		}
		if l := Diff(a, a); len(l) > 0 {
			t.Fatalf("%s to itself:\n%s", render.Text(a), lines(l))
		}
		for _, p := range l {
			met[p.Kind]++
			checkPatch(t, p)
		}
	}
	for k := api.PatchSet; k <= api.PatchMore; k++ {
		if met[k] < 400 {
			t.Errorf("%d patches of the kind %d", met[k], k)
		}
	}
}

// checkPatch: what its kind does not use is zero; Nodes are a part.
func checkPatch(t *testing.T, p api.Patch) {
	t.Helper()
	rest := p
	rest.Kind, rest.Way = 0, nil
	_, isPart := render.Find(p.Nodes, nil)
	switch p.Kind {
	case api.PatchSet, api.PatchInsert, api.PatchMore:
		rest.Nodes = nil
		if isPart != api.OK {
			t.Fatalf("no part: %v", p)
		}
	case api.PatchText:
		rest.At, rest.Count, rest.Text = 0, 0, ""
	case api.PatchSpans:
		rest.Spans = nil
	}
	if !samePatches([]api.Patch{rest}, make([]api.Patch, 1)) || way.Right(p.Way) != api.OK {
		t.Fatalf("not zero: %v", p)
	}
}

// wayTo is the way to a node, of how many steps ever.
func wayTo(l []api.Node, at int) []api.Step {
	if at == 0 {
		return nil
	}
	in := at - 1
	for l[in].Deep >= l[at].Deep {
		in--
	}
	step := byChild(slices.Index(kids(l, in), at))
	switch l[in].Value.Kind {
	case api.Map:
		step = byKey(l[at].Key)
	case api.List:
		step.Kind = api.ByIndex
	}
	return append(wayTo(l, in), step)
}

// anyWay is one that leads somewhere, or nearly so; one step further, for an Insert.
func (m maker) anyWay(l []api.Node, k api.PatchKind) []api.Step {
	at := m.Intn(len(l))
	for n := 0; n < 20 && (k == api.PatchText && l[at].Value.Kind != api.String || (k == api.PatchInsert || k == api.PatchSpans) && l[at].Value.Kind != api.List && l[at].Value.Kind != api.Outline); n++ {
		at = m.Intn(len(l))
	}
	w := wayTo(l, at)
	if k == api.PatchInsert || m.Intn(6) == 0 {
		step := byChild(m.Intn(len(kids(l, at)) + 1))
		switch l[at].Value.Kind {
		case api.Map:
			step = byKey(m.key())
		case api.List:
			step.Kind = api.ByIndex
		}
		w = append(w, step)
	}
	if len(w) > 0 && w[len(w)-1].Kind != api.ByKey && m.Intn(6) == 0 {
		w[len(w)-1].N += m.Intn(3) - 1
	}
	return w
}

// anyPatch is one that fits nodes, or nearly so.
func (m maker) anyPatch(l []api.Node) api.Patch {
	k := api.PatchKind(m.Intn(7))
	p := api.Patch{Kind: k, Way: m.anyWay(l, k), At: m.Intn(9)/3 - m.Intn(9)/8, Count: m.Intn(9)/4 - m.Intn(9)/8, Text: m.text(), Spans: m.spans(m.Intn(3))}
	p.Nodes = m.branch(2, m.Intn(2) == 0).nodes()
	if len(p.Way) > 0 {
		last := p.Way[len(p.Way)-1]
		p.Nodes[0].Key = last.Key
		if last.Kind == api.ByChild {
			p.Nodes[0].Key = m.key()
		}
	}
	switch m.Intn(12) {
	case 0:
		p.Nodes[0].Key = m.key()
	case 1:
		p.Nodes[m.Intn(len(p.Nodes))].Deep++
	case 2:
		p.Nodes = p.Nodes[1:]
	case 3:
		p.Nodes[m.Intn(len(p.Nodes))].More--
	case 4:
		p.Nodes = append(p.Nodes, p.Nodes...)
	case 5:
		p.Text = "\xff"
	}
	if p.Kind == api.PatchMore && len(p.Nodes) > 0 {
		p.Nodes = p.Nodes[:1+m.Intn(8)/7*min(1, len(p.Nodes)-1)]
	}
	return p
}

// P18.3, P18.7, P18.8: by the chapter's words, of patches by chance.
func TestDoByDefinition(t *testing.T) {
	m := newMaker(3)
	fit, not := map[api.PatchKind]int{}, map[api.PatchKind]int{}
	for range 10000 {
		first, _ := m.pair()
		l := first
		var row []api.Patch
		for range 1 + m.Intn(4) {
			p := m.anyPatch(l)
			row = append(row, p)
			got, why := Do(first, row)
			want, ok := modelDo(first, row)
			if ok != (why == api.OK) || !ok && why != api.ErrPatch || !sameNodes(got, want) {
				t.Fatalf("%s\nby\n%s%v\n%s, %d, not\n%s, %v", render.Text(l), lines(row), p, render.Text(got), why, render.Text(want), ok)
			}
			again, also := Do(l, []api.Patch{p})
			if also != why || !sameNodes(again, got) {
				t.Fatalf("%s\nby\n%s: not the same in two calls", render.Text(l), lines(row))
			}
			if !ok {
				not[p.Kind]++
				break
			}
			if Sound(got) != api.OK {
				t.Fatal("what was made is not sound")
			}
			fit[p.Kind]++
			l = got
		}
	}
	for k := api.PatchSet; k <= api.PatchMore; k++ {
		if fit[k] < 250 || not[k] < 250 {
			t.Errorf("of the kind %d: %d fit, %d do not", k, fit[k], not[k])
		}
	}
}

// P18.9
func TestOneKey(t *testing.T) {
	m := newMaker(4)
	for range 2000 {
		a, b := m.doc(3), m.doc(3)
		key := m.key()
		b.kids = slices.DeleteFunc(slices.Clone(a.kids), func(kid *branch) bool { return kid.node.Key == key })
		if m.Intn(4) > 0 {
			fresh := m.branch(3, false)
			fresh.node.Key = key
			n, _ := b.find(byKey(key))
			b.kids = slices.Insert(b.kids, n, fresh)
		}
		for _, p := range Diff(a.nodes(), b.nodes()) {
			if !way.Starts(p.Way, steps(byKey(key))) {
				t.Fatalf("%s differs, but not at %q", Print(p), key)
			}
		}
	}
}

// P3: nothing that is handed in is changed or kept, and no two lists of an answer share memory.
func TestMemory(t *testing.T) {
	spoil := func(l []api.Node) {
		for _, n := range l {
			for i := range n.Spans[:cap(n.Spans)] {
				n.Spans[:cap(n.Spans)][i].From = 99
			}
		}
		for i := range l[:cap(l)] {
			l[:cap(l)][i] = api.Node{Key: "spoilt"}
		}
	}
	m := newMaker(5)
	for range 300 {
		a, b := m.pair()
		oldA, oldB := copied(a), copied(b)
		l := Diff(a, b)
		want := Diff(a, b)
		for i, p := range l {
			spoil(p.Nodes)
			for j := range p.Way[:cap(p.Way)] {
				p.Way[:cap(p.Way)][j].N = 77
			}
			for j := range p.Spans[:cap(p.Spans)] {
				p.Spans[:cap(p.Spans)][j].To = 88
			}
			if !samePatches(l[i+1:], want[i+1:]) {
				t.Fatal("two patches share memory")
			}
		}
		if !sameNodes(a, oldA) || !sameNodes(b, oldB) || !samePatches(Diff(a, b), want) {
			t.Fatal("Diff changed what was handed in, or keeps what it answers")
		}
		kept := Diff(a, b)
		done, _ := Do(a, kept)
		for i := range done {
			spans := done[i].Spans
			for j := range spans[:cap(spans)] {
				spans[:cap(spans)][j].From = 99
			}
			if !sameNodes(done[i+1:], b[i+1:]) {
				t.Fatal("two nodes share memory")
			}
		}
		spoil(done)
		if !sameNodes(a, oldA) || !samePatches(kept, want) {
			t.Fatal("Do changed what was handed in, or answers it")
		}
		spoil(a)
		spoil(b)
		if !samePatches(kept, want) {
			t.Fatal("Diff keeps what was handed in")
		}
	}
	// One list of Spans that is handed in twice comes out in two lists.
	both := []api.Span{{To: 1, Name: "a", Value: whole(1)}}
	list := api.Patch{Kind: api.PatchSpans, Way: steps(byKey("l")), Spans: both}
	text := api.Patch{Kind: api.PatchSpans, Way: steps(byKey("t")), Spans: both}
	l, why := Do(of(t, `{"l":[1],"t":'a'}`), []api.Patch{list, text})
	l[1].Spans[0].Name = "b"
	if why != api.OK || l[3].Spans[0].Name != "a" || both[0].Name != "a" {
		t.Error("Spans are shared")
	}
}

// Many patches on many nodes, and nodes that lie very deep, cost no more than there is of them.
func TestLarge(t *testing.T) {
	const size = 20000
	list := func(first int) []api.Node {
		l := []api.Node{{Value: kindAlone(api.Map)}, {Deep: 1, Key: "l", Value: kindAlone(api.List)}}
		for n := range size {
			l = append(l, api.Node{Deep: 2, Id: api.Id{N: first + n}, Value: whole(n)})
		}
		return l
	}
	a, b := list(1), list(size+1)
	l := Diff(a, b)
	if len(l) != 2*size {
		t.Errorf("%d patches", len(l))
	}
	if got, why := Do(a, l); why != api.OK || !sameNodes(got, b) {
		t.Errorf("done: %d", why)
	}
	deep := []api.Node{{Value: kindAlone(api.Map)}, {Deep: 1, Key: "o", Value: kindAlone(api.Outline)}}
	for n := range 1 << 16 {
		deep = append(deep, api.Node{Deep: n + 2, Key: "k", Value: whole(n)})
	}
	other := copied(deep)
	other[len(other)-1].Value = whole(-1)
	l = Diff(deep, other)
	if len(l) != 1 || len(l[0].Way) != api.MaxSteps {
		t.Fatalf("%d patches", len(l))
	}
	if got, why := Do(deep, l); why != api.OK || !sameNodes(got, other) {
		t.Errorf("done: %d", why)
	}
}

// The rows' own functions; walks that are left early.
func TestRows(t *testing.T) {
	is := func(a, b int) bool { return a == b }
	for _, x := range []struct {
		a, b       []int
		front, end int
	}{
		{nil, nil, 0, 0}, {[]int{1}, nil, 0, 0}, {[]int{1, 2}, []int{1, 2}, 2, 0}, {[]int{1, 1}, []int{1, 1, 1}, 2, 0}, {[]int{1, 2, 3}, []int{1, 3}, 1, 1}, {[]int{2, 3}, []int{1, 2, 3}, 0, 2},
	} {
		if front, end := common(x.a, x.b, is); front != x.front || end != x.end {
			t.Errorf("%v, %v: %d, %d", x.a, x.b, front, end)
		}
	}
	both := together([]int{1, 3, 4}, []int{2, 3, 5, 6}, func(a, b int) int { return a - b })
	for range 2 {
		var got [][2]int
		for a, b := range both {
			got = append(got, [2]int{a, b})
		}
		if !slices.Equal(got, [][2]int{{1, 0}, {0, 2}, {3, 3}, {4, 0}, {0, 5}, {0, 6}}) {
			t.Errorf("together: %v", got)
		}
	}
	for a := range both {
		if a != 1 {
			t.Error("not the first")
		}
		break
	}
}
