package policy

import (
	"slices"
	"testing"

	"estuary/api"
	"estuary/dag"
	"estuary/digest"
	"estuary/doc"
	"estuary/edit"
	"estuary/render"
)

func up(l ...api.Hash) []api.Hash {
	l = slices.Clone(l)
	slices.SortFunc(l, digest.Compare)
	return slices.Compact(l)
}

func list(l ...api.Hash) []api.Hash { return l }

// world is a graph that updates are added to.
type world struct {
	t *testing.T
	g *dag.Graph
}

func newWorld(t *testing.T) *world { return &world{t, dag.New()} }

// edits are those that lines say.
func edits(t *testing.T, lines ...string) []api.Edit {
	t.Helper()
	var l []api.Edit
	for _, s := range lines {
		e, why, word := edit.Parse(s)
		if why != api.OK {
			t.Fatalf("%s: %d at %d", s, why, word)
		}
		l = append(l, e)
	}
	return l
}

// next is an author's next update behind some.
func (w *world) next(author int, parents []api.Hash, lines ...string) api.Update {
	w.t.Helper()
	parents = up(parents...)
	return api.Update{Author: author, Seq: w.g.Next(author, parents), Parents: parents, Edits: edits(w.t, lines...)}
}

func (w *world) add(author int, parents []api.Hash, lines ...string) api.Hash {
	w.t.Helper()
	u := w.next(author, parents, lines...)
	for u.Time = 0; ; u.Time++ {
		h, why := w.g.Add(u)
		if why == api.ErrKnown { // the same was said beside it
			continue
		}
		if why != api.OK {
			w.t.Fatalf("Add(%v): %d", u, why)
		}
		return h
	}
}

// rank asks for an author's behind some updates.
func (w *world) rank(author, want int, heads ...api.Hash) {
	w.t.Helper()
	if n := Rank(w.g, heads, author); n != want {
		w.t.Errorf("the rank of %d is %d, not %d", author, n, want)
	}
}

// void asks for just these.
func (w *world) void(want ...api.Hash) {
	w.t.Helper()
	if l := Void(w.g); !slices.Equal(up(l...), up(want...)) || !slices.Equal(l, inOrder(w.g, l)) {
		w.t.Errorf("%d are void, not %d", len(l), len(want))
	}
}

func inOrder(g *dag.Graph, l []api.Hash) []api.Hash {
	l = slices.Clone(l)
	slices.SortFunc(l, func(a, b api.Hash) int { return g.Place(a) - g.Place(b) })
	return l
}

func shown(d *doc.Doc) string { return render.Full(render.Nodes(d)) }

// P26.1, P26.2, the first example
func TestWhoMayWrite(t *testing.T) {
	w := newWorld(t)
	without := w.add(2, nil, `put . . "a" 1`)
	w.void(without)
	g := w.add(1, nil, "grant 2 3")
	behind := w.add(2, list(g), `put . . "b" 1`)
	beside := w.add(2, nil, `put . . "c" 1`)
	w.void(without, beside)
	w.rank(2, 3, g)
	w.rank(2, 3, behind)
	w.rank(2, 0, without, beside)
	if s := render.Text(render.Nodes(Doc(w.g))); s != `{"b":1}` {
		t.Errorf("shown: %s", s)
	}
}

// P26.1, the second example: what an author may give is below their own rank, to those whose rank is below it.
func TestWhatMayBeGiven(t *testing.T) {
	w := newWorld(t)
	g := w.add(1, nil, "grant 2 3")
	for line, ranks := range map[string][2]int{ // of 2 and 3
		"grant 3 2": {3, 2},
		"grant 3 1": {3, 1},
		"grant 3 3": {3, 0},
		"grant 3 4": {3, 0},
		"grant 3 9": {3, 0},
		"grant 2 2": {3, 0},
		"grant 2 1": {3, 0},
		"revoke 2":  {3, 0},
		"grant 2 9": {3, 0},
		"revoke 3":  {3, 0},
	} {
		h := w.add(2, list(g), line)
		w.rank(2, ranks[0], h)
		w.rank(3, ranks[1], h)
	}
	w.void()
}

// P26.1: who is of the same rank, or of a greater one, is neither raised, nor lowered, nor revoked.
func TestNobodyAtOrAboveIsTouched(t *testing.T) {
	w := newWorld(t)
	g := w.add(1, nil, "grant 2 5", "grant 3 5", "grant 4 6", "grant 5 4")
	for line, want := range map[string][]int{ // of 3, 4, 5
		"revoke 3":  {5, 6, 4},
		"grant 3 1": {5, 6, 4},
		"revoke 4":  {5, 6, 4},
		"grant 4 4": {5, 6, 4},
		"revoke 5":  {5, 6, 0},
		"grant 5 1": {5, 6, 1},
		"grant 5 4": {5, 6, 4},
		"grant 5 5": {5, 6, 4},
	} {
		h := w.add(2, list(g), line)
		for i, n := range want {
			w.rank(3+i, n, h)
		}
	}
}

// P26.7, P26.1: the founder's rank is nobody's to give or take, not even their own.
func TestFounderStays(t *testing.T) {
	w := newWorld(t)
	a := w.add(1, nil, "revoke 1", "grant 1 3", "grant 2 8")
	b := w.add(2, list(a), "revoke 1", "grant 1 1")
	c := w.add(1, list(b), "grant 3 8")
	d := w.add(1, nil, "put . . \"k\" 1")
	w.void()
	for _, h := range list(a, b, c, d) {
		w.rank(1, 9, h)
	}
	w.rank(3, 8, c)
}

// P26.1: a rank of 9 is above nothing of the founder's.
func TestNobodyGetsTheFoundersRank(t *testing.T) {
	w := newWorld(t)
	a := w.add(1, nil, "grant 2 9")
	w.rank(2, 0, a)
	b := w.add(1, list(a), "grant 2 8")
	w.rank(2, 8, b)
	c := w.add(1, list(b), "grant 2 9")
	w.rank(2, 8, c)
	w.void(w.add(2, list(a)))
}

// P26.1, P26.5, the third example
func TestRevoke(t *testing.T) {
	w := newWorld(t)
	g := w.add(1, nil, "grant 2 3")
	r := w.add(1, list(g), "revoke 2")
	a := w.add(2, list(g), `put . . "a" 1`)
	b := w.add(2, list(a), `put . . "b" 1`)
	w.void()
	c := w.add(2, list(r), `put . . "c" 1`)
	d := w.add(2, list(r, b), `put . . "d" 1`)
	e := w.add(2, list(d), `put . . "e" 1`)
	w.void(c, d, e)
	w.rank(2, 0, r)
	w.rank(2, 3, b)
	w.rank(2, 0, r, b)
	again := w.add(1, list(e), "grant 2 1")
	f := w.add(2, list(again), `put . . "f" 1`)
	w.void(c, d, e)
	w.rank(2, 1, f)
	if s := render.Text(render.Nodes(Doc(w.g))); s != `{"a":1,"b":1,"f":1}` {
		t.Errorf("shown: %s", s)
	}
}

// P26.1, the fourth example: of what nobody had seen of one another the least holds.
func TestTheLeastHolds(t *testing.T) {
	w := newWorld(t)
	a, b := w.add(1, nil, "grant 2 5"), w.add(1, nil, "grant 2 3")
	w.rank(2, 5, a)
	w.rank(2, 3, b)
	w.rank(2, 3, a, b)
	c := w.add(1, list(a, b), "grant 2 7")
	w.rank(2, 7, c)
	w.rank(2, 7, a, b, c)
	d := w.add(1, list(a), "revoke 2")
	w.rank(2, 0, d)
	w.rank(2, 0, d, b)
	w.rank(2, 0, d, c)
	e := w.add(1, list(d), "grant 2 6")
	w.rank(2, 6, e, a)
	w.rank(2, 3, e, b)
	w.rank(2, 6, e, c)
}

// P26.1: of one update's edits each had seen those ahead of it, and is judged by what they gave.
func TestEditsOfOneUpdate(t *testing.T) {
	w := newWorld(t)
	a := w.add(1, nil, "grant 2 5", "grant 2 3", "grant 2 7")
	w.rank(2, 7, a)
	b := w.add(1, list(a), "grant 2 4", "revoke 2")
	w.rank(2, 0, b)
	c := w.add(2, list(a), "grant 3 6", "grant 3 2", "grant 3 7", "revoke 4", "grant 4 1")
	w.rank(3, 2, c)
	w.rank(4, 1, c)
	d := w.add(1, list(a), "grant 3 5")
	e := w.add(2, list(d), "revoke 3", "grant 3 1")
	w.rank(3, 1, e)
	f := w.add(2, list(e), "grant 4 6", "grant 4 3")
	w.rank(4, 3, f)
}

// P26.1: what is void gives nothing, and what is not valid hides nothing.
func TestWhatIsNotValidHidesNothing(t *testing.T) {
	w := newWorld(t)
	a := w.add(1, nil, "grant 2 3", "grant 3 5")
	b := w.add(4, list(a), "revoke 2", "grant 4 1")
	c := w.add(2, list(b), "revoke 3", "grant 3 1", "grant 5 3")
	w.void(b)
	w.rank(2, 3, c)
	w.rank(3, 5, c)
	w.rank(4, 0, c)
	w.rank(5, 0, c)
	d := w.add(3, list(c), "grant 2 4")
	w.rank(2, 4, d)
	w.rank(3, 5, d)
}

// P26.1: a grant stays, when who gave it is revoked behind it, or beside it.
func TestGiftsStay(t *testing.T) {
	w := newWorld(t)
	a := w.add(1, nil, "grant 2 5")
	b := w.add(2, list(a), "grant 3 4")
	r := w.add(1, list(a), "revoke 2")
	c := w.add(3, list(b, r), "grant 4 1")
	w.rank(2, 0, c)
	w.rank(3, 4, c)
	w.rank(4, 1, c)
	w.void()
	late := w.add(2, list(r), "grant 3 1")
	w.rank(3, 0, late)
	w.rank(3, 4, late, c)
	w.void(late)
}

// P26.1, P4: heads in any order, twice, with hashes of nothing.
func TestHeads(t *testing.T) {
	w := newWorld(t)
	a, b := w.add(1, nil, "grant 2 5", "grant 3 1"), w.add(1, nil, "grant 2 3", "grant 4 2")
	alien := api.Hash{1, 2, 3}
	want := []api.Right{{Author: 1, Rank: 9}, {Author: 2, Rank: 3}, {Author: 3, Rank: 1}, {Author: 4, Rank: 2}}
	for _, heads := range [][]api.Hash{{a, b}, {b, a}, {alien, b, a, b, a, alien}} {
		if l := Rights(w.g, heads); !slices.Equal(l, want) {
			t.Errorf("%v", l)
		}
		w.rank(2, 3, heads...)
	}
	for _, heads := range [][]api.Hash{nil, {}, {alien}, {alien, alien}} {
		if l := Rights(w.g, heads); !slices.Equal(l, want[:1]) {
			t.Errorf("%v", l)
		}
		w.rank(2, 0, heads...)
		w.rank(1, 9, heads...)
	}
}

// P26.1: authors far apart rise; a revoked one is not told.
func TestRights(t *testing.T) {
	w := newWorld(t)
	a := w.add(1, nil, "grant 4294967295 8", "grant 70000 1", "grant 2 2", "grant 9 3", "revoke 9")
	want := []api.Right{{Author: 1, Rank: 9}, {Author: 2, Rank: 2}, {Author: 70000, Rank: 1}, {Author: 4294967295, Rank: 8}}
	got := Rights(w.g, list(a))
	if !slices.Equal(got, want) {
		t.Errorf("%v", got)
	}
	got[0], got = api.Right{}, append(got, api.Right{})
	if !slices.Equal(Rights(w.g, list(a)), want) {
		t.Error("an answer is kept")
	}
	for _, author := range []int{0, -1, 3, 9, 1 << 32, -1 << 63} {
		w.rank(author, 0, a)
	}
}

// P26.2: dag's errors first, then ErrMay.
func TestCheck(t *testing.T) {
	w := newWorld(t)
	a := w.add(1, nil, "grant 2 3")
	b := w.add(2, list(a))
	r := w.add(1, list(a), "revoke 2")
	before := w.g.Order()
	wrong := w.next(3, list(a))
	wrong.Edits = []api.Edit{{Act: 11}}
	turn := w.next(3, list(a))
	turn.Seq = 2
	known, _ := w.g.Update(b)
	for name, x := range map[string]struct {
		u   api.Update
		why api.Errno
	}{
		"the founder":                 {w.next(1, nil, "revoke 2"), api.OK},
		"one who may":                 {w.next(2, list(a), `put . . "k" 1`), api.OK},
		"one who may, behind":         {w.next(2, list(b)), api.OK},
		"one who may not yet":         {w.next(2, nil), api.ErrMay},
		"one who may no more":         {w.next(2, list(r)), api.ErrMay},
		"one who may no more, beside": {w.next(2, list(r, b)), api.ErrMay},
		"one who never might":         {w.next(3, list(a, b)), api.ErrMay},
		"one who gives to themselves": {w.next(3, nil, "grant 3 1"), api.ErrMay},
		"what cannot be given counts": {w.next(2, list(a), "grant 3 9"), api.OK},
		"a wrong act":                 {wrong, api.ErrAct},
		"no author":                   {api.Update{Seq: 1}, api.ErrAuthor},
		"known":                       {known, api.ErrKnown},
		"no parent":                   {api.Update{Author: 3, Seq: 1, Parents: list(api.Hash{1})}, api.ErrParent},
		"not their turn":              {turn, api.ErrTurn},
	} {
		if why := Check(w.g, x.u); why != x.why {
			t.Errorf("%s: %d, not %d", name, why, x.why)
		}
	}
	if !slices.Equal(w.g.Order(), before) {
		t.Error("Check changes the graph")
	}
}

// P26.1, P26.2, the fifth example
func TestNilGraph(t *testing.T) {
	h := list(api.Hash{1})
	if Rank(nil, nil, 1) != 9 || Rank(nil, h, 1) != 9 || Rank(nil, nil, 2) != 0 || Rank(nil, h, 2) != 0 || Rank(nil, nil, 0) != 0 {
		t.Error("Rank")
	}
	if l := Rights(nil, h); !slices.Equal(l, []api.Right{{Author: 1, Rank: 9}}) {
		t.Errorf("Rights: %v", l)
	}
	if len(Void(nil)) > 0 {
		t.Error("Void")
	}
	if d := Doc(nil); d == nil || shown(d) != shown(doc.New()) {
		t.Error("Doc")
	}
	if why := Check(nil, api.Update{Author: 1, Seq: 1}); why != api.ErrNil {
		t.Errorf("Check: %d", why)
	}
	if why := Check(nil, api.Update{}); why != api.ErrNil {
		t.Errorf("Check of nothing: %d", why)
	}
}

// P26.2: Check of a full graph, and of one that is not full by one.
func TestCheckFull(t *testing.T) {
	w := newWorld(t)
	for i := range api.MaxUpdates - 1 {
		if _, why := w.g.Add(api.Update{Author: 1, Seq: 1, Time: int64(i)}); why != api.OK {
			t.Fatal(why)
		}
	}
	stranger := api.Update{Author: 2, Seq: 1}
	if why := Check(w.g, stranger); why != api.ErrMay {
		t.Errorf("room for one: %d", why)
	}
	if _, why := w.g.Add(api.Update{Author: 2, Seq: 1, Time: 1}); why != api.OK {
		t.Fatal(why)
	}
	if why := Check(w.g, stranger); why != api.ErrFull {
		t.Errorf("full: %d", why)
	}
	if l := Void(w.g); len(l) != 1 {
		t.Errorf("%d are void", len(l))
	}
}

// P3: what is answered is new memory, and each document one's own.
func TestAnswersAreApart(t *testing.T) {
	w := newWorld(t)
	w.add(2, nil, `put . . "a" 1`)
	w.add(1, nil, `put . . "a" 2`)
	void := Void(w.g)
	want := slices.Clone(void)
	void[0] = api.Hash{}
	if !slices.Equal(Void(w.g), want) {
		t.Error("Void")
	}
	before := shown(Doc(w.g))
	d := Doc(w.g)
	d.Do(edit.Op(edits(t, `put . . "z" 1`)[0], api.Hash{9}, 1, 1), nil)
	if shown(Doc(w.g)) != before || shown(d) == before {
		t.Error("Doc")
	}
}
