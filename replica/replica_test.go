package replica

import (
	"math"
	"math/rand"
	"slices"
	"strings"
	"testing"

	"estuary/api"
	"estuary/doc"
	"estuary/render"
	"estuary/update"
)

// alien is a hash of nothing.
var alien = api.Hash{7, 7, 7}

func fresh(t *testing.T, every, keep, orphans int) *Replica {
	t.Helper()
	r, why := New(api.Options{Every: every, Keep: keep, Orphans: orphans})
	if r == nil || why != api.OK {
		t.Fatalf("New: %v, %d", r, why)
	}
	return r
}

// P16.1
func TestNew(t *testing.T) {
	for _, c := range []struct {
		every, keep, orphans int
		why                  api.Errno
	}{
		{1, 0, 0, api.OK}, {api.MaxEvery, api.MaxKeep, api.MaxOrphans, api.OK}, {64, 8, 16, api.OK},
		{0, 0, 0, api.ErrRange}, {-1, 1, 1, api.ErrRange}, {api.MaxEvery + 1, 1, 1, api.ErrRange}, {math.MinInt, 1, 1, api.ErrRange},
		{1, -1, 1, api.ErrRange}, {1, api.MaxKeep + 1, 1, api.ErrRange}, {1, math.MaxInt, 1, api.ErrRange},
		{1, 1, -1, api.ErrRange}, {1, 1, api.MaxOrphans + 1, api.ErrRange}, {1, 1, math.MaxInt, api.ErrRange},
	} {
		r, why := New(api.Options{Every: c.every, Keep: c.keep, Orphans: c.orphans})
		if why != c.why || (r != nil) != (why == api.OK) {
			t.Errorf("New(%v) = %v, %d", c, r, why)
		}
		if r != nil && (tell(r) != newModel(api.Options{Every: 1}).tell(t) || r.Render() != "{}") {
			t.Errorf("a fresh one tells %s", tell(r))
		}
	}
}

// P16.2 to P16.4, the first example
func TestFirstExample(t *testing.T) {
	r := fresh(t, 4, 4, 4)
	if r.Render() != "{}" {
		t.Errorf("Render = %s", r.Render())
	}
	x := r.Commit(1, 0, "", []api.Edit{put("a", 1)})
	id, b := encode(t, api.Update{Author: 1, Seq: 1, Edits: []api.Edit{put("a", 1)}})
	sameReceipt(t, "Commit", x, api.Receipt{Id: id, Taken: []api.Hash{id}, Steps: 1})
	if r.Render() != `{"a":1}` || !slices.Equal(r.Export()[0], b) {
		t.Errorf("Render = %s", r.Render())
	}
	for s, want := range map[string]struct {
		text string
		why  api.Errno
	}{"/a": {"1", api.OK}, "/": {`{"a":1}`, api.OK}, "/b": {"", api.ErrAbsent}, "a": {"", api.ErrWay}, "": {"", api.ErrWay}, "/a/b": {"", api.ErrSort}, "/" + strings.Repeat("x", api.MaxWay): {"", api.ErrLong}} {
		if got, why := r.Read(s); got != want.text || why != want.why {
			t.Errorf("Read(%s) = %s, %d", s, got, why)
		}
	}
}

// P16.4: parts of all sorts
func TestRead(t *testing.T) {
	r := fresh(t, 4, 4, 4)
	own := func(n int) api.Ref { return api.Ref{Kind: api.RefOwn, N: n} }
	r.Commit(1, 0, "", []api.Edit{
		{Act: api.Put, Key: "o", Value: api.Value{Kind: api.Outline}},
		{Act: api.Grow, Obj: own(1), Key: "m", Value: whole(1)},
		{Act: api.Grow, Obj: own(1), At: own(2), Key: "n", Value: whole(2)},
		{Act: api.Put, Key: "t", Value: api.Value{Kind: api.String}},
		{Act: api.Insert, Obj: own(4), Value: api.Value{Kind: api.Text, S: "'"}},
	})
	for s, want := range map[string]string{"/": `{"o":<"m":1<"n":2>>,"t":'\''}`, "/o": `<"m":1<"n":2>>`, "/o~0": `1<"n":2>`, "/o~0~0": "2", "/t": `'\''`} {
		if got, why := r.Read(s); got != want || why != api.OK {
			t.Errorf("Read(%s) = %s, %d", s, got, why)
		}
	}
	for s, want := range map[string]api.Errno{"/t[0]": api.ErrSort, "/o~1": api.ErrAbsent, "/o~00": api.ErrWay} {
		if got, why := r.Read(s); got != "" || why != want {
			t.Errorf("Read(%s) = %s, %d", s, got, why)
		}
	}
}

// P16.2, P16.5, the second to fourth example
func TestExamples(t *testing.T) {
	a, first := encode(t, api.Update{Author: 1, Seq: 1})
	b, second := encode(t, api.Update{Author: 1, Seq: 2, Parents: []api.Hash{a}})
	r := fresh(t, 4, 4, 4)
	sameReceipt(t, "b", r.Receive(second), api.Receipt{Why: api.ErrParent, Id: b})
	if !slices.Equal(r.Waiting(), []api.Hash{b}) || !slices.Equal(r.Missing(), []api.Hash{a}) || len(r.Accepted()) > 0 {
		t.Errorf("Waiting %x, Missing %x", r.Waiting(), r.Missing())
	}
	sameReceipt(t, "b again", r.Receive(second), api.Receipt{Why: api.ErrKnown, Id: b})
	sameReceipt(t, "a", r.Receive(first), api.Receipt{Id: a, Taken: []api.Hash{a, b}, Steps: 2})
	sameReceipt(t, "b", r.Receive(second), api.Receipt{Why: api.ErrKnown, Id: b})
	sameReceipt(t, "a", r.Receive(first), api.Receipt{Why: api.ErrKnown, Id: a})
	if len(r.Waiting())+len(r.Missing()) > 0 || !slices.Equal(r.Accepted(), []api.Hash{a, b}) || !slices.Equal(r.Frontier(), []api.Hash{b}) {
		t.Errorf("Accepted %x, Frontier %x", r.Accepted(), r.Frontier())
	}
	sameReceipt(t, "no room", fresh(t, 1, 0, 0).Receive(second), api.Receipt{Why: api.ErrFull, Id: b})
	c, third := encode(t, api.Update{Author: 3, Seq: 2})
	sameReceipt(t, "not the next one", r.Receive(third), api.Receipt{Why: api.ErrTurn, Id: c})
	for _, bytes := range [][]byte{nil, {}} {
		sameReceipt(t, "no bytes", r.Receive(bytes), api.Receipt{Why: api.ErrShort})
	}
	sameReceipt(t, "too many bytes", r.Receive(make([]byte, api.MaxUpdate+1)), api.Receipt{Why: api.ErrSize})
}

// P16.2: an update that comes out of the pool may be none, and takes those with it that wait for it
func TestDroppedFromThePool(t *testing.T) {
	a, first := encode(t, api.Update{Author: 1, Seq: 1})
	b, second := encode(t, api.Update{Author: 1, Seq: 7, Parents: []api.Hash{a}})
	c, third := encode(t, api.Update{Author: 1, Seq: 8, Parents: []api.Hash{b}})
	d, fourth := encode(t, api.Update{Author: 2, Seq: 1, Parents: up(c, alien)})
	e, fifth := encode(t, api.Update{Author: 2, Seq: 1, Parents: up(a, alien)})
	r := fresh(t, 4, 4, 4)
	for _, row := range [][]byte{second, third, fourth, fifth} {
		if x := r.Receive(row); x.Why != api.ErrParent {
			t.Fatalf("%+v", x)
		}
	}
	if !slices.Equal(r.Waiting(), up(b, c, d, e)) || !slices.Equal(r.Missing(), up(a, alien)) {
		t.Errorf("Waiting %x", r.Waiting())
	}
	sameReceipt(t, "a", r.Receive(first), api.Receipt{Id: a, Taken: []api.Hash{a}, Steps: 1})
	if !slices.Equal(r.Waiting(), []api.Hash{e}) || !slices.Equal(r.Missing(), []api.Hash{alien}) {
		t.Errorf("Waiting %x, Missing %x", r.Waiting(), r.Missing())
	}
	for _, row := range [][]byte{third, fourth} {
		r.Receive(row)
	}
	sameReceipt(t, "b by itself", r.Receive(second), api.Receipt{Why: api.ErrTurn, Id: b})
	if !slices.Equal(r.Waiting(), []api.Hash{e}) || !slices.Equal(r.Accepted(), []api.Hash{a}) {
		t.Errorf("Waiting %x", r.Waiting())
	}
}

// P16.2, P16.5 to P16.7, P16.11, P16.12: any calls, held against the chapter's words, with Forks that go their own way
func TestAnyCalls(t *testing.T) {
	for seed := range int64(60) {
		r := rand.New(rand.NewSource(seed))
		o := api.Options{Every: 1 + r.Intn(5), Keep: r.Intn(4), Orphans: pick(r, 0, 1, 3, 8, 40)}
		w := anyWorld(t, r, 10+r.Intn(40), pick(r, 0, 10, 30))
		type pair struct {
			r *Replica
			m *model
		}
		pairs := []pair{{fresh(t, o.Every, o.Keep, o.Orphans), newModel(o)}}
		rows := pick(r, w.shuffled(r), w.nearly(r), w.nearly(r))
		for i, row := range rows {
			p := pick(r, pairs...)
			switch n := r.Intn(20); {
			case n == 0:
				row = spoilt(r, row)
			case n == 1 && len(pairs) < 3:
				pairs = append(pairs, pair{p.r.Fork(), p.m.fork()})
			case n == 2:
				edits := []api.Edit{w.anyEdit(r)}
				sameReceipt(t, "Commit", p.r.Commit(1+n, int64(i), "c", edits), p.m.commit(1+n, int64(i), "c", edits))
			}
			sameReceipt(t, "Receive", p.r.Receive(row), p.m.receive(row))
			if i%7 == 0 || i == len(rows)-1 {
				for _, p := range pairs {
					same(t, p.r, p.m)
				}
			}
			checkPool(t, p.r, o)
		}
	}
}

// checkPool asks for P16.12.
func checkPool(t *testing.T, r *Replica, o api.Options) {
	t.Helper()
	if len(r.Waiting()) > o.Orphans || r.Kept() > o.Keep {
		t.Fatalf("%d wait, %d kept", len(r.Waiting()), r.Kept())
	}
	accepted := r.Accepted()
	for _, h := range append(r.Waiting(), r.Missing()...) {
		if slices.Contains(accepted, h) {
			t.Fatal("what is accepted waits, or is missing")
		}
	}
	if (len(r.Waiting()) > 0) != (len(r.Missing()) > 0) {
		t.Fatal("what waits lacks nothing")
	}
}

// P16.8: the same updates, however they came
func TestTheSameForAll(t *testing.T) {
	for seed := range int64(30) {
		r := rand.New(rand.NewSource(1000 + seed))
		w := anyWorld(t, r, 10+r.Intn(50), pick(r, 0, 0, 15))
		var first *Replica
		for range 4 {
			x := fresh(t, 1+r.Intn(9), r.Intn(5), api.MaxOrphans)
			for _, row := range w.shuffled(r) {
				if r.Intn(8) == 0 {
					x.Receive(spoilt(r, row)[:r.Intn(4)])
				}
				if y := x.Receive(row); y.Why == api.ErrFull {
					t.Fatal("full")
				}
			}
			if first == nil {
				first = x
			}
			if x.Render() != first.Render() || !slices.Equal(x.Frontier(), first.Frontier()) || !slices.Equal(x.Accepted(), first.Accepted()) || !slices.EqualFunc(x.Export(), first.Export(), slices.Equal) {
				t.Fatalf("%s, %s", x.Render(), first.Render())
			}
		}
		if !slices.Equal(first.Accepted(), w.g.Order()) {
			t.Fatalf("%d of %d sound ones were accepted", len(first.Accepted()), w.g.Len())
		}
	}
}

// P16.9
func TestWhatIsRefusedChangesNothing(t *testing.T) {
	for seed := range int64(20) {
		r := rand.New(rand.NewSource(2000 + seed))
		w := anyWorld(t, r, 30, 20)
		x := fresh(t, 3, 2, 6)
		for _, row := range w.shuffled(r) {
			if r.Intn(6) == 0 {
				row = spoilt(r, row)
			}
			before := x.Fork()
			y := x.Receive(row)
			switch y.Why {
			case api.OK:
				continue
			case api.ErrParent, api.ErrTurn:
				before.pool = x.pool
			}
			if tell(x) != tell(before) || len(y.Taken) > 0 || y.Steps != 0 {
				t.Fatalf("%+v changed something", y)
			}
			if decoded, why, _ := update.Decode(row); why != api.OK {
				sameReceipt(t, "no update", y, api.Receipt{Why: why})
			} else if id, _ := update.Id(decoded); id != y.Id {
				t.Fatalf("%+v: another id", y)
			}
		}
	}
}

// P16.10
func TestExportMakesTheSame(t *testing.T) {
	for seed := range int64(20) {
		r := rand.New(rand.NewSource(3000 + seed))
		w := anyWorld(t, r, 5+r.Intn(40), 15)
		x := fresh(t, 3, 2, api.MaxOrphans)
		for _, row := range w.shuffled(r) {
			x.Receive(row)
		}
		export := x.Export()
		for i, b := range export {
			u, why, _ := update.Decode(b)
			if again, _ := update.Encode(u); why != api.OK || !slices.Equal(again, b) {
				t.Fatalf("a row that is none: %d", why)
			}
			if id, _ := update.Id(u); id != x.Accepted()[i] {
				t.Fatal("rows that are not in the order")
			}
		}
		y := fresh(t, 1, 0, api.MaxOrphans)
		again := world{rows: export}
		if len(export) == 0 {
			continue
		}
		for _, row := range again.shuffled(r) {
			y.Receive(row)
		}
		if y.Render() != x.Render() || !slices.Equal(y.Frontier(), x.Frontier()) || !slices.Equal(y.Accepted(), x.Accepted()) || len(y.Waiting()) > 0 {
			t.Fatalf("%s, %s", x.Render(), y.Render())
		}
	}
}

// P16.5, P4
func TestBytes(t *testing.T) {
	r := rand.New(rand.NewSource(5))
	w := anyWorld(t, r, 30, 0)
	x := fresh(t, 3, 2, api.MaxOrphans)
	for _, row := range w.rows[:20] {
		x.Receive(row)
	}
	x.Receive(w.rows[29])
	order := x.Accepted()
	for range 50 {
		var l []api.Hash
		for range r.Intn(12) {
			l = append(l, pick(r, alien, pick(r, w.ids...), order[r.Intn(len(order))]))
		}
		var want [][]byte
		for i, h := range order {
			if slices.Contains(l, h) {
				want = append(want, x.Export()[i])
			}
		}
		if got := x.Bytes(l); !slices.EqualFunc(got, want, slices.Equal) {
			t.Fatalf("Bytes = %x, not %x", got, want)
		}
	}
	if len(x.Bytes(nil)) > 0 || len(x.Bytes([]api.Hash{alien})) > 0 {
		t.Error("bytes of nothing")
	}
}

// P16.3, P2: what is wrong with the update is told, and nothing changes
func TestCommitRefuses(t *testing.T) {
	r := fresh(t, 2, 2, 2)
	r.Commit(1, 0, "", []api.Edit{put("a", 1)})
	before := tell(r)
	long := api.Edit{Act: api.Put, Obj: api.Ref{Kind: api.RefOp, Hash: alien, N: 1}, Key: strings.Repeat("k", api.MaxKey), Value: api.Value{Kind: api.Bytes, S: strings.Repeat("x", api.MaxText)}}
	for name, c := range map[string]struct {
		author int
		time   int64
		note   string
		edits  []api.Edit
		why    api.Errno
	}{
		"author 0":           {0, 0, "", nil, api.ErrAuthor},
		"author below 0":     {-1, -1, "\n", nil, api.ErrAuthor},
		"author too great":   {api.MaxAuthor, 0, "", nil, api.ErrAuthor},
		"time below 0":       {1, -1, "\n", nil, api.ErrTime},
		"time too great":     {1, api.MaxTime + 1, "", nil, api.ErrTime},
		"a note of no text":  {1, 0, "\n", nil, api.ErrNote},
		"a long note":        {1, 0, strings.Repeat("n", api.MaxNote+1), nil, api.ErrNote},
		"too many edits":     {1, 0, "", slices.Repeat([]api.Edit{put("a", 1)}, api.MaxEdits+1), api.ErrEdits},
		"no act":             {1, 0, "", []api.Edit{{}}, api.ErrAct},
		"an edit of no sort": {1, 0, "", []api.Edit{{Act: api.Prune}}, api.ErrField},
		"too many bytes":     {1, 0, "", slices.Repeat([]api.Edit{long}, api.MaxEdits), api.ErrSize},
	} {
		sameReceipt(t, name, r.Commit(c.author, c.time, c.note, c.edits), api.Receipt{Why: c.why})
	}
	if tell(r) != before {
		t.Error("a Commit that was refused changed something")
	}
	x := r.Commit(api.MaxAuthor-1, api.MaxTime, strings.Repeat("n", api.MaxNote), slices.Repeat([]api.Edit{put("a", 1)}, api.MaxEdits))
	if x.Why != api.OK || len(x.Taken) != 1 {
		t.Errorf("the greatest: %+v", x)
	}
}

// P16.3: what is committed
func TestCommitMakesAnUpdate(t *testing.T) {
	r := fresh(t, 2, 2, 2)
	a := r.Commit(1, 0, "", nil).Id
	b, row := encode(t, api.Update{Author: 2, Seq: 1, Time: 4})
	r.Receive(row)
	x := r.Commit(1, 17, "note", []api.Edit{put("k", 3)})
	u, ok := r.Graph().Update(x.Id)
	if !ok || !update.Same(u, api.Update{Parents: up(a, b), Author: 1, Seq: 2, Time: 17, Note: "note", Edits: []api.Edit{put("k", 3)}}) {
		t.Errorf("%+v", u)
	}
	y := r.Commit(2, 0, "", nil)
	if u, _ := r.Graph().Update(y.Id); u.Seq != 2 || !slices.Equal(u.Parents, []api.Hash{x.Id}) {
		t.Errorf("%+v", u)
	}
	if !slices.Equal(r.Frontier(), []api.Hash{y.Id}) {
		t.Errorf("Frontier = %x", r.Frontier())
	}
}

// P16.3: a Commit can be what others wait for
func TestCommitLetsOthersIn(t *testing.T) {
	r := fresh(t, 2, 2, 2)
	a, _ := encode(t, api.Update{Author: 1, Seq: 1, Edits: []api.Edit{put("a", 1)}})
	b, row := encode(t, api.Update{Author: 2, Seq: 1, Parents: []api.Hash{a}, Edits: []api.Edit{put("a", 2)}})
	r.Receive(row)
	sameReceipt(t, "Commit", r.Commit(1, 0, "", []api.Edit{put("a", 1)}), api.Receipt{Id: a, Taken: []api.Hash{a, b}, Steps: 2})
	if r.Render() != `{"a":2}` || len(r.Waiting()) > 0 {
		t.Errorf("Render = %s", r.Render())
	}
}

// P16.3: the parents where there are more heads than an update may have
func TestParentsOfManyHeads(t *testing.T) {
	for seed := range int64(60) {
		r := rand.New(rand.NewSource(4000 + seed))
		o := api.Options{Every: 5, Keep: 2, Orphans: 4}
		x, m := fresh(t, o.Every, o.Keep, o.Orphans), newModel(o)
		var ids []api.Hash
		for range 9 + r.Intn(25) {
			u := api.Update{Author: 1 + r.Intn(5), Time: int64(r.Intn(1000))}
			for range r.Intn(3) * r.Intn(2) {
				if len(ids) > 0 {
					u.Parents = append(u.Parents, pick(r, ids...))
				}
			}
			u.Parents = up(u.Parents...)
			u.Seq = m.next(u.Author, u.Parents)
			id, row := encode(t, u)
			m.receive(row)
			if x.Receive(row).Why == api.OK {
				ids = append(ids, id)
			}
		}
		many := len(m.heads()) > api.MaxParents
		for i := range 4 {
			author := 1 + r.Intn(7)
			want := m.commit(author, int64(i), "", nil)
			sameReceipt(t, "Commit", x.Commit(author, int64(i), "", nil), want)
			if u, _ := x.Graph().Update(want.Id); many && i == 0 && len(u.Parents) != api.MaxParents {
				t.Fatalf("%d parents of %d heads", len(u.Parents), len(m.heads()))
			}
		}
		same(t, x, m)
	}
}

// P16.3: a head that is the author's newest update itself comes first, however early it stands
func TestOwnHeadIsAParent(t *testing.T) {
	r := fresh(t, 5, 2, 4)
	own, row := encode(t, api.Update{Author: 1, Seq: 1})
	r.Receive(row)
	var later []api.Hash
	for i := range 12 {
		a, first := encode(t, api.Update{Author: 2 + i, Seq: 1})
		b, second := encode(t, api.Update{Author: 2 + i, Seq: 2, Parents: []api.Hash{a}})
		r.Receive(first)
		r.Receive(second)
		later = append(later, b)
	}
	later = up(later...)
	for author, want := range map[int][]api.Hash{1: up(append(slices.Clone(later[5:]), own)...), 99: later[4:]} {
		f := r.Fork()
		x := f.Commit(author, 0, "", nil)
		u, _ := f.Graph().Update(x.Id)
		if !slices.Equal(u.Parents, want) || u.Seq != r.Graph().Next(author, want) {
			t.Errorf("author %d: parents %x, not %x", author, u.Parents, want)
		}
	}
}

// P16.6
func TestGraphAndDoc(t *testing.T) {
	r := fresh(t, 1, 4, 4)
	x := r.Commit(1, 0, "", []api.Edit{put("a", 1)})
	before := tell(r)
	g, d := r.Graph(), r.Doc()
	if !slices.Equal(g.Order(), r.Accepted()) || render.Text(render.Nodes(d)) != r.Render() {
		t.Error("another graph, or document")
	}
	g.Add(api.Update{Author: 9, Seq: 1})
	d.Do(api.Op{Id: api.Id{N: 1}, Act: api.Put, Key: "z", Value: whole(1)}, nil)
	if tell(r) != before {
		t.Error("what is done to its Forks a replica knows")
	}
	r.Commit(1, 0, "", []api.Edit{put("b", 1)})
	if g.Len() != 2 || !g.Has(x.Id) || render.Text(render.Nodes(d)) != `{"a":1,"z":1}` {
		t.Error("its Forks know what is done to a replica")
	}
	if r.Kept() != 2 || r.Steps() != 2 {
		t.Errorf("Kept %d, Steps %d", r.Kept(), r.Steps())
	}
}

// P16.1, P16.6, P1
func TestNilReplica(t *testing.T) {
	var r *Replica
	if r.Fork() != nil || r.Render() != "" || len(r.Nodes()) > 0 || r.Graph() != nil || r.Doc() != (*doc.Doc)(nil) || r.Kept() != 0 || r.Steps() != 0 {
		t.Error("a nil replica tells something")
	}
	if len(r.Frontier())+len(r.Accepted())+len(r.Waiting())+len(r.Missing())+len(r.Export())+len(r.Bytes([]api.Hash{alien})) > 0 {
		t.Error("a nil replica has something")
	}
	_, row := encode(t, api.Update{Author: 1, Seq: 1})
	for _, x := range []api.Receipt{r.Receive(row), r.Receive(nil), r.Commit(1, 0, "", nil), r.Commit(-1, -1, "\n", []api.Edit{{}})} {
		sameReceipt(t, "nil", x, api.Receipt{Why: api.ErrNil})
	}
	for _, s := range []string{"/", "", "/a"} {
		if got, why := r.Read(s); got != "" || why != api.ErrNil {
			t.Errorf("Read = %s, %d", got, why)
		}
	}
}

// spoilBytes changes bytes, those behind their end too.
func spoilBytes(b []byte) {
	for i := range b[:cap(b)] {
		b[:cap(b)][i] ^= 0xff
	}
}

func spoilHashes(l []api.Hash) {
	for i := range l[:cap(l)] {
		l[:cap(l)][i] = alien
	}
}

// P3
func TestNothingIsShared(t *testing.T) {
	r := rand.New(rand.NewSource(6))
	w := anyWorld(t, r, 20, 0)
	x, m := fresh(t, 2, 2, 8), newModel(api.Options{Every: 2, Keep: 2, Orphans: 8})
	for _, row := range w.shuffled(r) {
		m.receive(row)
		b := append(make([]byte, 0, len(row)+8), row...)
		y := x.Receive(b)
		if !slices.Equal(b, row) {
			t.Fatal("what was handed in was changed")
		}
		spoilBytes(b)
		spoilHashes(y.Taken)
	}
	edits := []api.Edit{put("a", 1), put("b", 2)}
	m.commit(1, 0, "", slices.Clone(edits))
	spoilHashes(x.Commit(1, 0, "", edits).Taken)
	if edits[0] != put("a", 1) || edits[1] != put("b", 2) {
		t.Error("edits were changed")
	}
	edits[0], edits[1] = api.Edit{}, api.Edit{}
	ids := x.Accepted()
	for _, rows := range [][][]byte{x.Export(), x.Bytes(ids)} {
		for _, b := range rows {
			spoilBytes(b)
		}
	}
	if !slices.Equal(ids, x.Accepted()) {
		t.Error("hashes were changed")
	}
	for _, l := range [][]api.Hash{x.Accepted(), x.Frontier(), x.Waiting(), x.Missing()} {
		spoilHashes(l)
	}
	for _, n := range x.Nodes() {
		for i := range n.Spans {
			n.Spans[i] = api.Span{}
		}
	}
	same(t, x, m)
}

// fill is a replica with so many accepted updates, each behind the one ahead.
func fill(t *testing.T, size int) *Replica {
	t.Helper()
	r := fresh(t, api.MaxEvery, 1, 8)
	for i := range size {
		if x := r.Commit(1, int64(i), "", nil); x.Why != api.OK {
			t.Fatalf("%+v", x)
		}
	}
	return r
}

// P16.2, P16.3, P16.12: a graph that becomes full
func TestFullGraph(t *testing.T) {
	base := fill(t, api.MaxUpdates-1)
	head := base.Frontier()
	p, row := encode(t, api.Update{Author: 2, Seq: 1, Parents: head})
	a, first := encode(t, api.Update{Author: 3, Seq: 1, Parents: []api.Hash{p}})
	b, second := encode(t, api.Update{Author: 3, Seq: 2, Parents: []api.Hash{a}})
	c, third := encode(t, api.Update{Author: 4, Seq: 2, Parents: []api.Hash{p}})
	d, fourth := encode(t, api.Update{Author: 4, Seq: 3, Parents: []api.Hash{c}})
	for name, x := range map[string]struct {
		rows [][]byte
		why  api.Errno
		wait []api.Hash
	}{
		"nothing waits":         {nil, api.OK, nil},
		"none in its turn":      {[][]byte{third, fourth}, api.OK, nil},
		"no room":               {[][]byte{first, second}, api.ErrFull, []api.Hash{b}},
		"no room, and no turn":  {[][]byte{first, second, third, fourth}, api.ErrFull, []api.Hash{b}},
		"only what waits for c": {[][]byte{fourth}, api.OK, []api.Hash{d}},
	} {
		r := base.Fork()
		for _, b := range x.rows {
			r.Receive(b)
		}
		steps := r.Steps()
		sameReceipt(t, name, r.Receive(row), api.Receipt{Why: x.why, Id: p, Taken: []api.Hash{p}, Steps: 1})
		if !slices.Equal(r.Waiting(), x.wait) || len(r.Accepted()) != api.MaxUpdates || r.Steps() != steps+1 {
			t.Errorf("%s: Waiting %x, %d accepted", name, r.Waiting(), len(r.Accepted()))
		}
		checkFull(t, r, p, first, third)
	}
}

// checkFull looks at what comes to a full graph whose head is p: an update behind that, and one out of its turn.
func checkFull(t *testing.T, r *Replica, p api.Hash, first, third []byte) {
	t.Helper()
	before := r.Fork()
	if x := r.Receive(first); x.Why != api.ErrFull || len(x.Taken) > 0 || x.Steps != 0 || x.Id == (api.Hash{}) {
		t.Errorf("no room: %+v", x)
	}
	if x := r.Commit(9, 0, "", nil); x.Why != api.ErrFull || len(x.Taken) > 0 || x.Steps != 0 || x.Id == (api.Hash{}) {
		t.Errorf("Commit: %+v", x)
	}
	if r.Steps() != before.Steps() || !slices.Equal(r.Accepted(), before.Accepted()) || !slices.Equal(r.Waiting(), before.Waiting()) || !slices.Equal(r.Missing(), before.Missing()) {
		t.Error("what had no room changed something")
	}
	if x := r.Receive(third); x.Why != api.ErrTurn || len(x.Taken) > 0 {
		t.Errorf("out of its turn: %+v", x)
	}
	_, known := encode(t, api.Update{Author: 1, Seq: 1})
	if x := r.Receive(known); x.Why != api.ErrKnown {
		t.Errorf("known: %+v", x)
	}
	if !slices.Equal(r.Frontier(), []api.Hash{p}) {
		t.Errorf("Frontier = %x", r.Frontier())
	}
}

// P16.2, P1: as much as can wait comes out at once
func TestWholePoolComesOut(t *testing.T) {
	for _, o := range []int{1, api.MaxOrphans} {
		w := &world{}
		var ahead []api.Hash
		for i := range o + 1 {
			id, row := encode(t, api.Update{Author: 1, Seq: i + 1, Parents: ahead, Edits: []api.Edit{put("a", i)}})
			ahead = []api.Hash{id}
			w.ids, w.rows = append(w.ids, id), append(w.rows, row)
		}
		r := fresh(t, 3, 3, o)
		for _, row := range slices.Backward(w.rows[1:]) {
			r.Receive(row)
		}
		x := r.Receive(w.rows[0])
		sameReceipt(t, "all", x, api.Receipt{Id: w.ids[0], Taken: w.ids, Steps: o + 1})
	}
	r := fresh(t, 3, 3, api.MaxOrphans)
	root, row := encode(t, api.Update{Author: 1, Seq: 1})
	for i := range api.MaxOrphans {
		_, b := encode(t, api.Update{Author: 2 + i, Seq: 1, Parents: []api.Hash{root}})
		r.Receive(b)
	}
	if _, b := encode(t, api.Update{Author: 999, Seq: 1, Parents: []api.Hash{root}}); r.Receive(b).Why != api.ErrFull {
		t.Error("more wait than may")
	}
	if x := r.Receive(row); x.Why != api.OK || len(x.Taken) != api.MaxOrphans+1 || len(r.Waiting()) > 0 || !slices.Equal(x.Taken, r.Accepted()) {
		t.Errorf("%d taken", len(x.Taken))
	}
}
