package history

import (
	"math/rand"
	"reflect"
	"slices"
	"strconv"
	"strings"
	"testing"

	"estuary/api"
	"estuary/dag"
	"estuary/doc"
	"estuary/edit"
	"estuary/eval"
	"estuary/render"
	"estuary/replica"
	"estuary/update"
)

// The first example: P17.1, P17.3 to P17.5.
func TestTwoPuts(t *testing.T) {
	w := newWorld()
	u := w.add(t, 1, nil, put("a", whole(1)))
	v := w.add(t, 2, list(u), put("a", whole(2)))
	story := []api.Op{edit.Op(put("a", whole(1)), u, 1, 1), edit.Op(put("a", whole(2)), v, 1, 2)}
	if l := Story(w.g, api.Place{Key: "a"}); !slices.Equal(l, story) {
		t.Errorf("Story: %v", l)
	}
	l, why := Blame(w.g, way(byKey("a")))
	if why != api.OK || !slices.Equal(l, []api.Credit{{From: 0, To: 1, Id: api.Id{Hash: v, N: 1}, Author: 2}}) {
		t.Errorf("Blame: %v, %d", l, why)
	}
	if h, ok := First(w.g, way(byKey("a"))); !ok || h != u {
		t.Errorf("First: %x, %v", h, ok)
	}
	d, why := At(w.g, list(u))
	if why != api.OK || render.Text(render.Nodes(d)) != `{"a":1}` {
		t.Errorf("At: %d", why)
	}
}

// The second example: P17.3.
func TestTypedBetween(t *testing.T) {
	w := newWorld()
	o := w.add(t, 1, nil, put("t", kind(api.String)))
	x := w.add(t, 1, list(o), api.Edit{Act: api.Insert, Obj: ref(o, 1), Value: text("x")}, api.Edit{Act: api.Insert, Obj: ref(o, 1), At: api.Ref{Kind: api.RefOwn, N: 1}, Value: text("y")})
	z := w.add(t, 2, list(x), api.Edit{Act: api.Insert, Obj: ref(o, 1), At: ref(x, 1), Value: text("z")})
	l, why := Blame(w.g, way(byKey("t")))
	want := []api.Credit{{From: 0, To: 1, Id: api.Id{Hash: x, N: 1}, Author: 1}, {From: 1, To: 2, Id: api.Id{Hash: z, N: 1}, Author: 2}, {From: 2, To: 3, Id: api.Id{Hash: x, N: 2}, Author: 1}}
	if why != api.OK || !slices.Equal(l, want) {
		t.Errorf("Blame: %v, %d", l, why)
	}
	l, why = Blame(w.g, way(byKey("t"), byIndex(1)))
	if why != api.OK || !slices.Equal(l, []api.Credit{{From: 0, To: 1, Id: api.Id{Hash: z, N: 1}, Author: 2}}) {
		t.Errorf("Blame of a character: %v, %d", l, why)
	}
	// What is shown at an element counts, not who put the element there.
	y := w.add(t, 2, list(z), api.Edit{Act: api.Put, Obj: ref(o, 1), At: ref(x, 2), Value: text("Y")})
	w.add(t, 3, list(y), api.Edit{Act: api.Delete, Obj: ref(o, 1), At: ref(z, 1)})
	l, _ = Blame(w.g, way(byKey("t")))
	if !slices.Equal(l, []api.Credit{{From: 0, To: 1, Id: api.Id{Hash: x, N: 1}, Author: 1}, {From: 1, To: 2, Id: api.Id{Hash: y, N: 1}, Author: 2}}) {
		t.Errorf("Blame: %v", l)
	}
}

// P17.3: two updates of one author are two runs; an empty sequence has none.
func TestBlameOfSequences(t *testing.T) {
	w := newWorld()
	o := w.add(t, 5, nil, put("l", kind(api.List)), put("m", kind(api.Map)), put("n", api.Value{Kind: api.Counter, N: 1}), put("o", kind(api.Outline)))
	for _, key := range []string{"m", "n", "o"} {
		if l, why := Blame(w.g, way(byKey(key))); why != api.OK || len(l) != 1 || l[0].From != 0 || l[0].To != 1 || l[0].Id.Hash != o || l[0].Author != 5 {
			t.Errorf("%s: %v, %d", key, l, why)
		}
	}
	if l, why := Blame(w.g, way(byKey("l"))); why != api.OK || len(l) > 0 {
		t.Errorf("an empty list: %v, %d", l, why)
	}
	add := w.add(t, 6, list(o), api.Edit{Act: api.Add, Key: "n", N: 4})
	if l, _ := Blame(w.g, way(byKey("n"))); len(l) != 1 || l[0].Author != 5 {
		t.Errorf("a counter that was added to: %v", l)
	}
	first := w.add(t, 6, list(add), api.Edit{Act: api.Insert, Obj: ref(o, 1), Value: whole(1)})
	second := w.add(t, 6, list(first), api.Edit{Act: api.Insert, Obj: ref(o, 1), At: ref(first, 1), Value: kind(api.List)})
	l, _ := Blame(w.g, way(byKey("l")))
	if !slices.Equal(l, []api.Credit{{From: 0, To: 1, Id: api.Id{Hash: first, N: 1}, Author: 6}, {From: 1, To: 2, Id: api.Id{Hash: second, N: 1}, Author: 6}}) {
		t.Errorf("two updates of one author: %v", l)
	}
	node := w.add(t, 7, list(second), api.Edit{Act: api.Grow, Obj: ref(o, 4), Key: "k", Value: whole(1)})
	l, why := Blame(w.g, way(byKey("o"), byChild(0)))
	if why != api.OK || !slices.Equal(l, []api.Credit{{To: 1, Id: api.Id{Hash: node, N: 1}, Author: 7}}) {
		t.Errorf("a node: %v, %d", l, why)
	}
}

// P17.3: the errors are those of render.Lies.
func TestBlameErrors(t *testing.T) {
	w := newWorld()
	w.add(t, 1, nil, put("a", whole(1)), put("l", kind(api.List)))
	for name, x := range map[string]struct {
		way []api.Step
		why api.Errno
	}{
		"the root":         {nil, api.ErrSort},
		"nothing":          {way(byKey("b")), api.ErrAbsent},
		"an index":         {way(byKey("l"), byIndex(0)), api.ErrAbsent},
		"into an Int":      {way(byKey("a"), byKey("b")), api.ErrSort},
		"no step":          {way(api.Step{}), api.ErrField},
		"too long":         {make([]api.Step, api.MaxSteps+1), api.ErrLong},
		"a negative index": {way(byKey("l"), byIndex(-1)), api.ErrField},
	} {
		if l, why := Blame(w.g, x.way); why != x.why || len(l) > 0 {
			t.Errorf("%s: %v, %d", name, l, why)
		}
		if h, ok := First(w.g, x.way); ok || h != (api.Hash{}) {
			t.Errorf("%s: First %x, %v", name, h, ok)
		}
	}
}

// P17.3, P17.9: by the chapter's words, of all that is shown.
func TestBlameByDefinition(t *testing.T) {
	r := rand.New(rand.NewSource(1))
	runs := 0
	for range 60 {
		w := anyWorld(t, r, 1+r.Intn(80))
		d := w.document(w.all())
		for _, x := range ways(d) {
			p, err := render.Lies(d, x)
			l, why := Blame(w.g, x)
			want := w.credits(d, p)
			if err != api.OK {
				want = nil
			}
			if why != err || !slices.Equal(l, want) {
				t.Fatalf("%v: %v, %d, not %v, %d", x, l, why, want, err)
			}
			if top, _ := d.Top(p); err == api.OK && (top.Value.Kind == api.List || top.Value.Kind == api.String) {
				runs += len(l)
				checkGaps(t, l, len(d.Live(top.Id)))
			}
		}
	}
	if runs < 300 {
		t.Errorf("only %d runs were asked for", runs)
	}
}

// credits are those at a place, element by element.
func (w *world) credits(d *doc.Doc, p api.Place) []api.Credit {
	e := d.Entries(p)
	if len(e) == 0 {
		return nil
	}
	top := e[len(e)-1]
	if top.Value.Kind != api.List && top.Value.Kind != api.String {
		return []api.Credit{{From: 0, To: 1, Id: top.Id, Author: w.updates[top.Id.Hash].Author}}
	}
	var l []api.Credit
	var last api.Hash
	for i, at := range d.Live(top.Id) {
		e := d.Entries(api.Place{Obj: top.Id, At: at})
		id := e[len(e)-1].Id
		if i == 0 || id.Hash != last {
			l = append(l, api.Credit{From: i, Id: id, Author: w.updates[id.Hash].Author})
		}
		l[len(l)-1].To = i + 1
		last = id.Hash
	}
	return l
}

func checkGaps(t *testing.T, l []api.Credit, length int) {
	t.Helper()
	at := 0
	for i, c := range l {
		if c.From != at || c.To <= c.From || i > 0 && c.Id.Hash == l[i-1].Id.Hash {
			t.Fatalf("a gap, or a run that is not the greatest: %v", l)
		}
		at = c.To
	}
	if at != length {
		t.Fatalf("%d of %d elements: %v", at, length, l)
	}
}

// P17.1, P17.7, E10: the document at some heads is that of a replica that got just their past.
func TestAt(t *testing.T) {
	r := rand.New(rand.NewSource(2))
	for range 60 {
		w := anyWorld(t, r, 1+r.Intn(40))
		heads := w.some(r)
		d, why := At(w.g, heads)
		past := w.past(heads)
		row := w.inOrder(func(h api.Hash) bool { return past[h] })
		if why != api.OK || tell(d) != tell(w.document(row)) {
			t.Fatalf("At: %d\n%s", why, tell(d))
		}
		other, _ := replica.New(api.Options{Every: 4, Keep: 4, Orphans: 64})
		for _, h := range row {
			b, _ := update.Encode(w.updates[h])
			other.Receive(b)
		}
		if tell(d) != render.Full(other.Nodes()) {
			t.Fatal("a replica that got just the past shows something else")
		}
		d, why = At(w.g, w.g.Heads())
		if why != api.OK || tell(d) != tell(eval.Fold(w.g, w.g.Order(), nil)) {
			t.Fatalf("At the heads: %d", why)
		}
	}
}

// P17.1: hashes of nothing; no heads.
func TestAtErrors(t *testing.T) {
	w := newWorld()
	u := w.add(t, 1, nil, put("a", whole(1)))
	for _, heads := range [][]api.Hash{list(alien), list(u, alien), list(alien, u), list(api.Hash{})} {
		if d, why := At(w.g, heads); why != api.ErrNone || d != nil {
			t.Errorf("At(%x) = %v, %d", heads, d, why)
		}
		for _, ok := range [][]api.Hash{nil, list(u)} {
			if l, why := Between(w.g, heads, ok); why != api.ErrNone || len(l) > 0 {
				t.Errorf("Between(%x, ..) = %x, %d", heads, l, why)
			}
			if l, why := Between(w.g, ok, heads); why != api.ErrNone || len(l) > 0 {
				t.Errorf("Between(.., %x) = %x, %d", heads, l, why)
			}
		}
	}
	if d, why := At(w.g, nil); why != api.OK || d == nil || tell(d) != tell(doc.New()) || d.Objects() != 1 {
		t.Errorf("At none: %d", why)
	}
}

// P17.1, P17.8: by definition.
func TestBetween(t *testing.T) {
	r := rand.New(rand.NewSource(3))
	for range 100 {
		w := anyWorld(t, r, 1+r.Intn(40))
		old, now := w.some(r), w.some(r)
		before, after := w.past(old), w.past(now)
		l, why := Between(w.g, old, now)
		if want := w.inOrder(func(h api.Hash) bool { return after[h] && !before[h] }); why != api.OK || !slices.Equal(l, want) {
			t.Fatalf("Between = %x, %d, not %x", l, why, want)
		}
		both := append(w.g.Past(old), l...)
		if together := w.g.Past(slices.Concat(old, now)); len(both) != len(together) || !slices.Equal(w.inOrder(func(h api.Hash) bool { return slices.Contains(both, h) }), together) {
			t.Fatal("Between and the past of old are not the past of both")
		}
		if l, why = Between(w.g, nil, now); why != api.OK || !slices.Equal(l, w.g.Past(now)) {
			t.Fatalf("Between none and now = %x, %d", l, why)
		}
		if l, why = Between(w.g, now, now); why != api.OK || len(l) > 0 {
			t.Fatalf("Between now and now = %x, %d", l, why)
		}
	}
}

// P17.2
func TestLogAndAuthors(t *testing.T) {
	r := rand.New(rand.NewSource(4))
	for range 40 {
		w := anyWorld(t, r, 1+r.Intn(30))
		lines, many := "", [5]int{}
		for _, h := range w.all() {
			lines += update.Line(w.updates[h]) + "\n"
			many[w.updates[h].Author]++
		}
		if got := Log(w.g); got != lines || strings.Count(got, "\n") != len(w.made) {
			t.Fatalf("Log:\n%s", got)
		}
		var want []api.Right
		for author, n := range many {
			if n > 0 {
				want = append(want, api.Right{Author: author, Rank: n})
			}
		}
		if got := Authors(w.g); !slices.Equal(got, want) {
			t.Fatalf("Authors: %v", got)
		}
	}
	w := newWorld()
	w.add(t, api.MaxAuthor-1, nil)
	w.add(t, 3, nil)
	if l := Authors(w.g); !slices.Equal(l, []api.Right{{Author: 3, Rank: 1}, {Author: api.MaxAuthor - 1, Rank: 1}}) {
		t.Errorf("Authors: %v", l)
	}
}

// acts tells by the chapter's words whether an op acts on a place.
func acts(o api.Op, p api.Place) bool {
	switch edit.Name(o.Act) {
	case "put", "delete", "add":
		return o.Obj == p.Obj && o.Key == p.Key && o.At == p.At
	case "insert", "grow":
		return o.Obj == p.Obj && o.Id == p.At && p.Key == ""
	case "move", "prune":
		return o.Obj == p.Obj && o.At == p.At && p.Key == ""
	}
	return false
}

// P17.4: by definition, of all places that ops name, and of some that nobody does.
func TestStory(t *testing.T) {
	r := rand.New(rand.NewSource(5))
	met := map[api.Act]int{}
	for range 20 {
		w := anyWorld(t, r, 1+r.Intn(40))
		w.add(t, 1, w.g.Heads()[:1], api.Edit{Act: api.Grant, Who: 2, N: 1}, api.Edit{Act: api.Revoke, Who: 2}, api.Edit{Act: api.Mark, Key: "a", Value: whole(1)}, api.Edit{Act: api.Mark, Obj: ref(alien, 1), Key: "a", Value: whole(1)})
		var all []api.Op
		places := map[api.Place]int{{}: 0, {Key: "none"}: 0, {Obj: api.Id{Hash: alien, N: 1}}: 0}
		for _, h := range w.all() {
			for i, e := range w.updates[h].Edits {
				o := edit.Op(e, h, i+1, w.updates[h].Author)
				all = append(all, o)
				for _, at := range []api.Id{{}, o.Id, o.At, o.To} {
					places[api.Place{Obj: o.Obj, At: at}], places[api.Place{Obj: o.Obj, At: at, Key: o.Key}] = 0, 0
				}
			}
		}
		for p := range places {
			want := slices.DeleteFunc(slices.Clone(all), func(o api.Op) bool { return !acts(o, p) })
			got := Story(w.g, p)
			if !slices.Equal(got, want) {
				t.Fatalf("%v: %v, not %v", p, got, want)
			}
			for _, o := range got {
				met[o.Act]++
			}
		}
	}
	for a := api.Put; a <= api.Prune; a++ {
		if (met[a] == 0) != (a == api.Mark) {
			t.Errorf("the act %d was met %d times", a, met[a])
		}
	}
}

// P17.4: ops that are passed over are told, too.
func TestStoryOfWhatWasPassedOver(t *testing.T) {
	w := newWorld()
	u := w.add(t, 1, nil, put("a", whole(1)), api.Edit{Act: api.Put, Obj: ref(alien, 3), Key: "a", Value: whole(1)}, api.Edit{Act: api.Move, Obj: ref(alien, 1), At: ref(alien, 2), To: ref(alien, 2), Key: "k"})
	for n, p := range []api.Place{{Key: "a"}, {Obj: api.Id{Hash: alien, N: 3}, Key: "a"}, {Obj: api.Id{Hash: alien, N: 1}, At: api.Id{Hash: alien, N: 2}}} {
		if l := Story(w.g, p); len(l) != 1 || l[0].Id != (api.Id{Hash: u, N: n + 1}) || l[0].Author != 1 {
			t.Errorf("%v: %v", p, l)
		}
	}
}

// P17.5: by definition, also where what lay there goes away again.
func TestFirst(t *testing.T) {
	r := rand.New(rand.NewSource(6))
	found, gone := 0, 0
	for range 30 {
		w := anyWorld(t, r, 1+r.Intn(50))
		order := w.all()
		var docs []*doc.Doc
		asked := map[string][]api.Step{}
		for n := range order {
			docs = append(docs, w.document(order[:n+1]))
			for _, x := range ways(docs[n]) {
				s := ""
				for _, step := range x {
					s += "/" + strconv.Itoa(int(step.Kind)) + step.Key + strconv.Itoa(step.N)
				}
				asked[s] = x
			}
		}
		for s, x := range asked {
			at := slices.IndexFunc(docs, func(d *doc.Doc) bool {
				_, why := render.Lies(d, x)
				return why == api.OK
			})
			h, ok := First(w.g, x)
			if ok != (at >= 0) || ok && h != order[at] || !ok && h != (api.Hash{}) {
				t.Fatalf("%s: First = %x, %v, not number %d", s, h, ok, at)
			}
			if _, why := render.Lies(docs[len(docs)-1], x); ok && why != api.OK {
				gone++
			}
			if ok {
				found++
			}
		}
	}
	if found < 300 || gone < 30 {
		t.Errorf("%d were found, of which %d are not there at the end", found, gone)
	}
}

// P17.5: the order counts, not who came first; a way into a String counts.
func TestFirstInTheOrder(t *testing.T) {
	w := newWorld()
	a, b := w.add(t, 1, nil, put("a", kind(api.String))), w.add(t, 2, nil, put("a", kind(api.String)))
	first := w.all()[0]
	if h, ok := First(w.g, way(byKey("a"))); !ok || h != first {
		t.Errorf("First: %x, %v", h, ok)
	}
	shown := w.all()[1]
	c := w.add(t, 3, list(a, b), api.Edit{Act: api.Insert, Obj: ref(shown, 1), Value: text("x")})
	if h, ok := First(w.g, way(byKey("a"), byIndex(0))); !ok || h != c {
		t.Errorf("First of a character: %x, %v", h, ok)
	}
	if h, ok := First(w.g, way(byKey("a"), byIndex(0), byIndex(0))); ok || h != (api.Hash{}) {
		t.Errorf("First in a character: %x, %v", h, ok)
	}
}

// P17.6, P1
func TestNilGraph(t *testing.T) {
	for _, g := range []*dag.Graph{nil, dag.New()} {
		if d, why := At(g, nil); why != api.OK || tell(d) != tell(doc.New()) {
			t.Errorf("At: %d", why)
		}
		if d, why := At(g, list(alien)); why != api.ErrNone || d != nil {
			t.Errorf("At: %d", why)
		}
		if l, why := Between(g, nil, nil); why != api.OK || len(l) > 0 {
			t.Errorf("Between: %x, %d", l, why)
		}
		if l, why := Between(g, nil, list(alien)); why != api.ErrNone || len(l) > 0 {
			t.Errorf("Between: %x, %d", l, why)
		}
		if Log(g) != "" || len(Authors(g)) > 0 || len(Story(g, api.Place{})) > 0 {
			t.Error("an empty graph has a history")
		}
		for _, x := range []struct {
			way []api.Step
			why api.Errno
		}{{nil, api.ErrSort}, {way(byKey("a")), api.ErrAbsent}, {way(byIndex(0)), api.ErrSort}, {way(api.Step{Kind: 9}), api.ErrField}} {
			if l, why := Blame(g, x.way); why != x.why || len(l) > 0 {
				t.Errorf("Blame(%v): %v, %d", x.way, l, why)
			}
			if h, ok := First(g, x.way); ok || h != (api.Hash{}) {
				t.Errorf("First(%v): %x", x.way, h)
			}
		}
	}
}

// P3, P5: nothing that is handed in is changed, nothing that is answered is kept.
func TestMemory(t *testing.T) {
	w := anyWorld(t, rand.New(rand.NewSource(7)), 40)
	order := w.g.Order()
	heads := append(list(order[30], order[5], order[30]), order[1], alien)[:3]
	kept := slices.Clone(heads[:5])
	steps := append(way(byKey("a")), byIndex(7))[:1]
	place := api.Place{Key: "a"}
	ask := func() []any {
		d, _ := At(w.g, heads)
		between, _ := Between(w.g, heads[1:], heads)
		credits, _ := Blame(w.g, steps)
		first, _ := First(w.g, steps)
		return []any{tell(d), between, Log(w.g), Authors(w.g), credits, Story(w.g, place), first}
	}
	want := ask()
	d, _ := At(w.g, heads)
	d.Do(api.Op{Id: api.Id{Hash: alien, N: 1}, Act: api.Put, Key: "z", Value: whole(1)}, nil)
	for _, x := range ask() {
		if l := reflect.ValueOf(x); l.Kind() == reflect.Slice {
			l = l.Slice(0, l.Cap())
			for i := range l.Len() {
				l.Index(i).SetZero()
			}
		}
	}
	if !reflect.DeepEqual(ask(), want) {
		t.Error("what is done to an answer shows in the next one")
	}
	if !slices.Equal(heads[:5], kept) || steps[:2][1] != byIndex(7) || steps[0] != byKey("a") {
		t.Error("a list that was handed in was changed")
	}
	if !slices.Equal(w.g.Order(), order) {
		t.Error("the graph was changed")
	}
}

// A full graph, all of it typed into one text.
func TestFullGraph(t *testing.T) {
	w := newWorld()
	last := w.add(t, 1, nil, put("t", kind(api.String)))
	obj, at := ref(last, 1), api.Ref{}
	for len(w.made) < api.MaxUpdates {
		last = w.add(t, 1+len(w.made)%3, list(last), api.Edit{Act: api.Insert, Obj: obj, At: at, Value: text("x")}, put("k", whole(len(w.made))))
		at = ref(last, 1)
	}
	l, why := Blame(w.g, way(byKey("t")))
	if why != api.OK || len(l) != api.MaxUpdates-1 {
		t.Errorf("Blame: %d runs, %d", len(l), why)
	}
	if h, ok := First(w.g, way(byKey("t"), byIndex(api.MaxUpdates-2))); !ok || h != last {
		t.Errorf("First: %x, %v", h, ok)
	}
	if l := Story(w.g, api.Place{Key: "k"}); len(l) != api.MaxUpdates-1 {
		t.Errorf("Story: %d", len(l))
	}
	if strings.Count(Log(w.g), "\n") != api.MaxUpdates || len(Authors(w.g)) != 3 {
		t.Error("Log, Authors")
	}
}

// Walks and runs by themselves.
func TestWalksAreLeft(t *testing.T) {
	w := newWorld()
	u := w.add(t, 1, nil, put("a", whole(1)), put("b", whole(2)))
	w.add(t, 1, list(u))
	for h, x := range updates(w.g) {
		if h != u {
			t.Error("not the first")
		}
		for o := range ops(x, h) {
			if o.Id.N != 1 {
				t.Error("not the first op")
			}
			break
		}
		break
	}
	same := func(n int) int { return n }
	if l := runs([]int{1, 1, 2, 1}, same); !slices.Equal(l, []run{{0, 2}, {2, 3}, {3, 4}}) || len(runs(nil, same)) > 0 {
		t.Errorf("runs: %v", l)
	}
}
