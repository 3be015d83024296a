package undo

import (
	"math/rand"
	"slices"
	"testing"

	"estuary/api"
	"estuary/dag"
	"estuary/doc"
	"estuary/edit"
	"estuary/history"
	"estuary/render"
	"estuary/replica"
	"estuary/update"
	"estuary/value"
)

// look is a graph and an update of it that is to be undone, asked by the chapter's words.
type look struct {
	g          *dag.Graph
	h          api.Hash
	u          api.Update
	ahead, now *doc.Doc
	done       []api.Op
	nodes      map[api.Id][]api.Id // by their outlines: all that were ever grown
}

func lookAt(t *testing.T, g *dag.Graph, h api.Hash) *look {
	t.Helper()
	x := &look{g: g, h: h, nodes: map[api.Id][]api.Id{}}
	x.u, _ = g.Update(h)
	x.ahead, _ = history.At(g, x.u.Parents)
	x.now, _ = history.At(g, g.Heads())
	d, _ := history.At(g, x.u.Parents)
	ops, why := update.Ops(x.u)
	if why != api.OK {
		t.Fatal(why)
	}
	for _, o := range ops {
		// All that lies in this document is of the past, and so was seen.
		if d.Do(o, func(api.Id) bool { return true }).Did() {
			x.done = append(x.done, o)
		}
	}
	for _, id := range g.Order() {
		u, _ := g.Update(id)
		for i, e := range u.Edits {
			if o := edit.Op(e, id, i+1, u.Author); e.Act == api.Grow {
				x.nodes[o.Obj] = append(x.nodes[o.Obj], o.Id)
			}
		}
	}
	return x
}

func (x *look) free(p api.Place) bool {
	past := x.g.Past(list(x.h))
	return !slices.ContainsFunc(history.Story(x.g, p), func(o api.Op) bool {
		return o.Author != x.u.Author && !slices.Contains(past, o.Id.Hash)
	})
}

// under is what a node is under, by whose kid it is; false, if there is none, or it is pruned itself.
func (x *look) under(d *doc.Doc, obj, n api.Id) (api.Id, string, bool) {
	for _, u := range append(x.nodes[obj], api.Id{}) {
		if slices.Contains(d.Kids(obj, u), n) {
			return u, d.Position(obj, n), true
		}
	}
	return api.Id{}, "", false
}

// liesUnder tells whether a node lies under another one, from that one down.
func liesUnder(d *doc.Doc, obj, n, top api.Id) bool {
	for _, k := range d.Kids(obj, top) {
		if k == n || liesUnder(d, obj, n, k) {
			return true
		}
	}
	return false
}

func name(id api.Id) api.Ref {
	if id == (api.Id{}) {
		return api.Ref{}
	}
	return api.Ref{Kind: api.RefOp, Hash: id.Hash, N: id.N}
}

// sort is which of the three rows an act belongs to.
func sort(a api.Act) int {
	switch a {
	case api.Put, api.Delete, api.Insert:
		return 1
	case api.Add:
		return 2
	case api.Grow, api.Move, api.Prune:
		return 3
	}
	return 0
}

func (x *look) placeOf(o api.Op) api.Place {
	switch o.Act {
	case api.Insert, api.Grow:
		return api.Place{Obj: o.Obj, At: o.Id}
	case api.Move, api.Prune:
		return api.Place{Obj: o.Obj, At: o.At}
	}
	return api.Place{Obj: o.Obj, Key: o.Key, At: o.At}
}

// inverse is the edits that undo the update.
func (x *look) inverse() []api.Edit {
	var l []api.Edit
	type meeting struct {
		sort  int
		place api.Place
	}
	met := map[meeting]bool{}
	for i := len(x.done) - 1; i >= 0; i-- {
		o := x.done[i]
		p := x.placeOf(o)
		if met[meeting{sort(o.Act), p}] {
			continue
		}
		met[meeting{sort(o.Act), p}] = true
		e, is := api.Edit{}, false
		switch sort(o.Act) {
		case 1:
			e, is = x.shown(p)
		case 2:
			e, is = x.added(p)
		case 3:
			e, is = x.stood(p)
		}
		if is {
			e.Obj, e.At, e.Key = name(p.Obj), name(p.At), p.Key+e.Key
			l = append(l, e)
		}
	}
	return l
}

func (x *look) shown(p api.Place) (api.Edit, bool) {
	was, before := x.ahead.Top(p)
	is, after := x.now.Top(p)
	switch {
	case !x.free(p):
	case before && after && value.Compare(was.Value, is.Value) == 0 || !before && !after:
	case before && value.Scalar(was.Value.Kind):
		return api.Edit{Act: api.Put, Value: was.Value}, true
	case !before && after && !slices.Contains(x.nodes[p.Obj], p.At):
		return api.Edit{Act: api.Delete}, true
	}
	return api.Edit{}, false
}

func (x *look) added(p api.Place) (api.Edit, bool) {
	e := api.Edit{Act: api.Add}
	for _, o := range x.done {
		if sort(o.Act) == 1 && x.placeOf(o) == p {
			return api.Edit{}, false
		}
		if o.Act == api.Add && x.placeOf(o) == p {
			e.N -= o.N
		}
	}
	is, _ := x.now.Top(p)
	return e, is.Value.Kind == api.Counter
}

func (x *look) stood(p api.Place) (api.Edit, bool) {
	if !x.free(p) {
		return api.Edit{}, false
	}
	u, k, stood := x.under(x.ahead, p.Obj, p.At)
	v, j, stands := x.under(x.now, p.Obj, p.At)
	switch {
	case !stood:
		return api.Edit{Act: api.Prune}, stands
	case stands && u == v && k == j:
		return api.Edit{}, false
	}
	return api.Edit{Act: api.Move, To: name(u), Key: k}, u == api.Id{} || u != p.At && !liesUnder(x.now, p.Obj, u, p.At)
}

// P20.1, P20.9: updates of graphs by chance, held against the chapter's words
func TestInverseByChance(t *testing.T) {
	r := rand.New(rand.NewSource(201))
	acts, none, taken, rings := map[api.Act]int{}, 0, 0, 0
	for range 150 {
		w := anyWorld(t, r, 2+r.Intn(20))
		for _, h := range w.made {
			x := lookAt(t, w.g, h)
			l, why := Inverse(w.g, h)
			if why != api.OK || !slices.Equal(l, x.inverse()) {
				t.Fatalf("Inverse: %v, %d, not %v", l, why, x.inverse())
			}
			if len(l) > len(x.u.Edits) || len(x.done) == 0 && len(l) > 0 {
				t.Fatalf("%d edits of %d", len(l), len(x.u.Edits))
			}
			for _, e := range l {
				acts[e.Act]++
				if why := edit.Right(e); why != api.OK {
					t.Fatalf("%v is not right: %d", e, why)
				}
			}
			if len(x.u.Edits) > 0 && len(x.done) == 0 {
				none++
			}
			for _, o := range x.done {
				if sort(o.Act) == 0 {
					continue
				}
				if !x.free(x.placeOf(o)) {
					taken++
				}
				if u, _, stood := x.under(x.ahead, o.Obj, x.placeOf(o).At); sort(o.Act) == 3 && stood && x.free(x.placeOf(o)) && liesUnder(x.now, o.Obj, u, x.placeOf(o).At) {
					rings++
				}
			}
		}
	}
	for _, a := range []api.Act{api.Put, api.Delete, api.Add, api.Move, api.Prune} {
		if acts[a] < 100 {
			t.Errorf("only %d edits of the act %d", acts[a], a)
		}
	}
	if none < 20 || taken < 100 || rings < 5 {
		t.Errorf("%d updates of which nothing was done, %d places that are not free, %d nodes that would lie in themselves", none, taken, rings)
	}
}

// replicaOf is one that has all of a graph.
func replicaOf(t *testing.T, g *dag.Graph) *replica.Replica {
	t.Helper()
	r, why := replica.New(api.Options{Every: 8, Keep: 4, Orphans: 0})
	if why != api.OK {
		t.Fatal(why)
	}
	for _, h := range g.Order() {
		u, _ := g.Update(h)
		b, _ := update.Encode(u)
		if x := r.Receive(b); x.Why != api.OK {
			t.Fatal(x.Why)
		}
	}
	return r
}

// same asks that at each place of an update's Puts, Deletes and Inserts that is free, and showed a scalar, or nothing, that is shown again.
func (x *look) same(t *testing.T, d *doc.Doc) (asked int) {
	t.Helper()
	for _, o := range x.done {
		p := x.placeOf(o)
		was, before := x.ahead.Top(p)
		if sort(o.Act) != 1 || !x.free(p) || before && !value.Scalar(was.Value.Kind) || !before && slices.Contains(x.nodes[p.Obj], p.At) {
			continue
		}
		asked++
		if is, after := d.Top(p); after != before || is.Value != was.Value {
			t.Fatalf("%v: %v, not %v", p, is, was)
		}
	}
	return asked
}

// P20.7, P20.8: what is undone is as it was, and what is done again, too
func TestUndoneByChance(t *testing.T) {
	r := rand.New(rand.NewSource(207))
	asked := 0
	for range 60 {
		w := anyWorld(t, r, 2+r.Intn(15))
		a := replicaOf(t, w.g)
		for range 8 {
			h := pickOne(r, w.made...)
			b := a.Fork()
			x := lookAt(t, b.Graph(), h)
			for range 3 {
				l, why := Inverse(x.g, x.h)
				if why != api.OK {
					t.Fatal(why)
				}
				u := b.Commit(x.u.Author, 1, "undone", l)
				if u.Why != api.OK {
					t.Fatal(u.Why)
				}
				asked += x.same(t, b.Doc())
				x = lookAt(t, b.Graph(), u.Id)
				if len(x.done) != len(l) {
					t.Fatal("an edit that undoes was passed over")
				}
			}
		}
	}
	if asked < 500 {
		t.Errorf("only %d places were asked for", asked)
	}
}

// P20.7: so is all that is shown, where only one author wrote, each update is undone, the newest first, and no objects, marks or sequences are in play
func TestAllUndone(t *testing.T) {
	w := newWorld()
	w.say(t, 1, `put . . "o" <>`, `put . . "n" +1`)
	begin := w.g.Heads()
	r := rand.New(rand.NewSource(208))
	for range 12 {
		var l []api.Edit
		for range r.Intn(6) {
			e := w.anyEdit(r)
			if e.Value.Kind < api.Map {
				l = append(l, e)
			}
		}
		w.add(t, 1, w.g.Heads(), l...)
	}
	a := replicaOf(t, w.g)
	for _, h := range slices.Backward(w.made[1:]) {
		l, why := Inverse(a.Graph(), h)
		if why != api.OK {
			t.Fatal(why)
		}
		if x := a.Commit(1, 0, "", l); x.Why != api.OK {
			t.Fatal(x.Why)
		}
	}
	old, _ := history.At(a.Graph(), begin)
	if got, want := a.Render(), render.Text(render.Nodes(old)); got != want {
		t.Errorf("%s, not %s", got, want)
	}
}
