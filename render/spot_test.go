package render

import (
	"math/rand"
	"slices"
	"testing"

	"estuary/api"
	"estuary/doc"
	"estuary/way"
)

// P15.5
func TestLies(t *testing.T) {
	w, ids := sample(t)
	letter := w.d.Live(ids["t"])[0]
	for s, want := range map[string]struct {
		p   api.Place
		why api.Errno
	}{
		"/":        {why: api.ErrSort},
		"/a":       {p: api.Place{Key: "a"}},
		"/z":       {p: api.Place{Key: "z"}},
		"/b":       {why: api.ErrAbsent},
		"/b/c":     {why: api.ErrAbsent},
		"[0]":      {why: api.ErrSort},
		"~0":       {why: api.ErrSort},
		"/a[0]":    {p: api.Place{Obj: ids["a"], At: ids["1"]}},
		"/a[1]":    {p: api.Place{Obj: ids["a"], At: ids["x"]}},
		"/a[2]":    {why: api.ErrAbsent},
		"/a/x":     {why: api.ErrSort},
		"/a~0":     {why: api.ErrSort},
		"/a[0][0]": {why: api.ErrSort},
		"/a[0]~0":  {why: api.ErrSort},
		"/a[2][0]": {why: api.ErrAbsent},
		"/o~0":     {p: api.Place{Obj: ids["o"], At: ids["m"]}},
		"/o~0~0":   {p: api.Place{Obj: ids["o"], At: ids["y"]}},
		"/o~1":     {why: api.ErrAbsent},
		"/o~0~1":   {why: api.ErrAbsent},
		"/o~0~0~0": {why: api.ErrAbsent},
		"/o[0]":    {why: api.ErrSort},
		"/o~0[0]":  {why: api.ErrSort},
		"/o/m":     {why: api.ErrSort},
		"/t[0]":    {p: api.Place{Obj: ids["t"], At: letter}},
		"/t[3]":    {p: api.Place{Obj: ids["t"], At: ids["s"]}},
		"/t[9]":    {why: api.ErrAbsent},
		"/t~0":     {why: api.ErrSort},
		"/t/a":     {why: api.ErrSort},
		"/t[0][0]": {why: api.ErrSort},
		"/t[9][0]": {why: api.ErrSort},
		"/t[9]/a":  {why: api.ErrSort},
		"/z[0]":    {why: api.ErrSort},
		"/z~0":     {why: api.ErrSort},
	} {
		if p, why := Lies(w.d, to(t, s)); p != want.p || why != want.why {
			t.Errorf("Lies %s = %v, %d", s, p, why)
		}
		l, why := Others(w.d, to(t, s))
		if why != want.why || !slices.Equal(l, w.d.Entries(want.p)) && why == api.OK || why != api.OK && len(l) > 0 {
			t.Errorf("Others %s = %v, %d", s, l, why)
		}
	}
	if l, _ := Others(w.d, to(t, "/z")); len(l) != 2 || l[0].Id != ids["first"] {
		t.Errorf("both that lie at z: %v", l)
	}
}

// P15.5, P2
func TestWrongWaysLie(t *testing.T) {
	w, _ := sample(t)
	for _, c := range []struct {
		steps []api.Step
		why   api.Errno
	}{
		{slices.Repeat([]api.Step{byKey("b")}, api.MaxSteps+1), api.ErrLong},
		{[]api.Step{byKey("b"), byKey("")}, api.ErrField},
		{[]api.Step{{Kind: 4}}, api.ErrField},
		{[]api.Step{{}}, api.ErrField},
		{[]api.Step{byIndex(-1)}, api.ErrField},
		{[]api.Step{byKey("a"), {Kind: api.ByIndex, Key: "a"}}, api.ErrField},
		{nil, api.ErrSort},
	} {
		for _, d := range []*doc.Doc{w.d, nil} {
			if p, why := Lies(d, c.steps); p != (api.Place{}) || why != c.why {
				t.Errorf("Lies %v = %v, %d", c.steps, p, why)
			}
			if l, why := Others(d, c.steps); len(l) > 0 || why != c.why {
				t.Errorf("Others %v = %v, %d", c.steps, l, why)
			}
		}
	}
}

// P15.5, P15.6, P1: a nil document is an empty one
func TestOfANilDocument(t *testing.T) {
	for _, d := range []*doc.Doc{nil, doc.New()} {
		for s, want := range map[string]api.Errno{"/a": api.ErrAbsent, "/a/b": api.ErrAbsent, "[0]": api.ErrSort, "/": api.ErrSort} {
			if p, why := Lies(d, to(t, s)); p != (api.Place{}) || why != want {
				t.Errorf("Lies %s = %v, %d", s, p, why)
			}
			if l, why := Others(d, to(t, s)); len(l) > 0 || why != want {
				t.Errorf("Others %s = %v, %d", s, l, why)
			}
		}
		for _, id := range []api.Id{{}, {N: 1}, {N: -1}} {
			if steps, ok := Where(d, id); len(steps) > 0 || ok {
				t.Errorf("Where = %v", steps)
			}
		}
	}
}

// P15.6
func TestWhere(t *testing.T) {
	w, ids := sample(t)
	for key, want := range map[string]string{"a": "/a", "1": "/a[0]", "x": "/a[1]", "o": "/o", "m": "/o~0", "y": "/o~0~0", "t": "/t", "s": "/t[3]"} {
		if steps, ok := Where(w.d, ids[key]); !ok || !slices.Equal(steps, to(t, want)) {
			t.Errorf("Where %s = %v, %v", key, steps, ok)
		}
	}
	for _, id := range []api.Id{{}, ids["first"], {Hash: ids["a"].Hash}, {Hash: ids["a"].Hash, N: -ids["a"].N}, {Hash: api.Hash{9}, N: ids["a"].N}, {N: 1 << 40}} {
		if steps, ok := Where(w.d, id); ok || len(steps) > 0 {
			t.Errorf("Where %v = %v, %v", id, steps, ok)
		}
	}
	put := w.do(t, api.Op{Act: api.Put, Obj: ids["o"], At: ids["y"], Value: whole(9)})
	if steps, ok := Where(w.d, put); !ok || !slices.Equal(steps, to(t, "/o~0~0")) {
		t.Errorf("put at a node: %v, %v", steps, ok)
	}
	w.do(t, api.Op{Act: api.Prune, Obj: ids["o"], At: ids["m"]})
	w.do(t, api.Op{Act: api.Delete, Obj: ids["t"], At: ids["s"]})
	w.do(t, api.Op{Act: api.Delete, Key: "a"})
	for _, id := range []api.Id{ids["y"], put, ids["m"], ids["s"], ids["a"], ids["1"]} {
		if steps, ok := Where(w.d, id); ok || len(steps) > 0 {
			t.Errorf("what is not shown: %v", steps)
		}
	}
}

// P15.6, P15.5: ways of just as many steps as may be, and of one more
func TestTheLongestWays(t *testing.T) {
	w := newWriter()
	obj := api.Id{}
	for range api.MaxNest {
		obj = w.do(t, api.Op{Act: api.Put, Obj: obj, Key: "k", Value: kind(api.Map)})
	}
	longest := slices.Repeat([]api.Step{byKey("k")}, api.MaxSteps)
	if steps, ok := Where(w.d, obj); !ok || !slices.Equal(steps, longest) {
		t.Errorf("Where = %v, %v", steps, ok)
	}
	if p, why := Lies(w.d, longest); why != api.OK || p.Key != "k" {
		t.Errorf("Lies = %v, %d", p, why)
	}
	if id := w.do(t, api.Op{Act: api.Put, Obj: obj, Key: "k", Value: whole(1)}); true {
		if steps, ok := Where(w.d, id); ok || len(steps) > 0 {
			t.Errorf("a way that is too long: %v", steps)
		}
	}
	outline := w.do(t, api.Op{Act: api.Put, Key: "o", Value: kind(api.Outline)})
	var under []api.Id
	at := api.Id{}
	for range 2000 {
		at = w.do(t, api.Op{Act: api.Grow, Obj: outline, At: at, Key: "k", Value: whole(1)})
		under = append(under, at)
	}
	for i, id := range under[:api.MaxSteps+3] {
		steps, ok := Where(w.d, id)
		if want := i+2 <= api.MaxSteps; ok != want || ok && len(steps) != i+2 || !ok && len(steps) > 0 {
			t.Errorf("%d nodes deep: %v, %v", i, steps, ok)
		}
	}
	if l := Nodes(w.d); len(l) != 1+api.MaxNest+1+1+2000 || l[len(l)-1].Deep != 2001 || !isKey(l[len(l)-1].Key) || Text(l) == "" {
		t.Error("nodes of a deep outline")
	}
}

// ways goes through all that is shown in a document: the way to each, and its place.
func (b *branch) ways(d *doc.Doc, ahead []api.Step, tell func(steps []api.Step, p api.Place)) {
	if b.step.Kind != 0 {
		ahead = append(slices.Clone(ahead), b.step)
		tell(ahead, b.place)
	}
	for _, kid := range b.kids {
		kid.ways(d, ahead, tell)
	}
	if b.node.Value.Kind == api.String {
		for i, at := range d.Live(b.node.Id) {
			tell(append(slices.Clone(ahead), byIndex(i)), api.Place{Obj: b.node.Id, At: at})
		}
	}
}

// wantLies is Lies by the chapter's words.
func wantLies(d *doc.Doc, l []api.Node, tree *branch, steps []api.Step) (api.Place, api.Errno) {
	if len(steps) == 0 {
		return api.Place{}, api.ErrSort
	}
	at, why := wantFind(l, way.Up(steps))
	if why != api.OK {
		return api.Place{}, why
	}
	found, why := api.Place{}, api.ErrAbsent
	tree.ways(d, nil, func(other []api.Step, p api.Place) {
		if slices.Equal(other, steps) {
			found, why = p, api.OK
		}
	})
	k, last := l[at].Value.Kind, steps[len(steps)-1].Kind
	leads := last == api.ByKey && k == api.Map || last == api.ByIndex && (k == api.List || k == api.String) || last == api.ByChild && (k == api.Outline || isOutlineNode(l, at))
	if !leads {
		return api.Place{}, api.ErrSort
	}
	return found, why
}

// P15.5, P15.6, P15.9: documents by chance
func TestPlacesOfAnyDocument(t *testing.T) {
	r := rand.New(rand.NewSource(4))
	for range 200 {
		w := anyDoc(r, r.Intn(50))
		tree := branchOf(w.d, api.Place{}, "", api.Step{}, false)
		l := Nodes(w.d)
		shown := map[api.Id]bool{}
		tree.ways(w.d, nil, func(steps []api.Step, p api.Place) {
			e, ok := w.d.Top(p)
			shown[e.Id] = ok
			if got, ok := Where(w.d, e.Id); !ok || !slices.Equal(got, steps) {
				t.Fatalf("Where = %v, not %v", got, steps)
			}
			if got, why := Lies(w.d, steps); got != p || why != api.OK {
				t.Fatalf("Lies %v = %v, %d, not %v", steps, got, why, p)
			}
			if got, why := Others(w.d, steps); why != api.OK || !slices.Equal(got, w.d.Entries(p)) || got[len(got)-1].Id != e.Id {
				t.Fatalf("Others %v = %v, %d", steps, got, why)
			}
		})
		for n := range w.n + 2 {
			id := api.Id{Hash: api.Hash{byte(n % 3)}, N: n}
			if got, ok := Where(w.d, id); ok != shown[id] || !ok && len(got) > 0 {
				t.Fatalf("Where %v = %v, %v", id, got, ok)
			}
		}
		for range 40 {
			steps := anySteps(r)
			p, why := wantLies(w.d, l, tree, steps)
			if got, gotWhy := Lies(w.d, steps); got != p || gotWhy != why {
				t.Fatalf("%s: Lies %v = %v, %d, not %v, %d", Text(l), steps, got, gotWhy, p, why)
			}
		}
	}
}

// P3, P5
func TestDocumentsAndWaysStayAsTheyWere(t *testing.T) {
	w, ids := sample(t)
	before := Full(Nodes(w.d))
	steps, _ := Where(w.d, ids["y"])
	for i := range steps[:cap(steps)] {
		steps[:cap(steps)][i] = api.Step{}
	}
	again, _ := Where(w.d, ids["y"])
	if !slices.Equal(again, to(t, "/o~0~0")) {
		t.Errorf("Where = %v", again)
	}
	kept := slices.Clone(again)
	Lies(w.d, again)
	Others(w.d, again[:1])
	Find(Nodes(w.d), again[:2])
	if !slices.Equal(kept, again) || Full(Nodes(w.d)) != before {
		t.Error("something was changed")
	}
}
