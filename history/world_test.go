package history

import (
	"math/rand"
	"slices"
	"testing"

	"estuary/api"
	"estuary/dag"
	"estuary/digest"
	"estuary/doc"
	"estuary/edit"
	"estuary/render"
)

func pickOne[T any](r *rand.Rand, l ...T) T { return l[r.Intn(len(l))] }

func whole(n int) api.Value { return api.Value{Kind: api.Int, N: int64(n)} }

func text(s string) api.Value { return api.Value{Kind: api.Text, S: s} }

func kind(k api.Kind) api.Value { return api.Value{Kind: k} }

func put(key string, v api.Value) api.Edit { return api.Edit{Act: api.Put, Key: key, Value: v} }

func ref(h api.Hash, n int) api.Ref { return api.Ref{Kind: api.RefOp, Hash: h, N: n} }

func list(l ...api.Hash) []api.Hash { return l }

func byKey(key string) api.Step { return api.Step{Kind: api.ByKey, Key: key} }

func byIndex(n int) api.Step { return api.Step{Kind: api.ByIndex, N: n} }

func byChild(n int) api.Step { return api.Step{Kind: api.ByChild, N: n} }

func way(l ...api.Step) []api.Step { return l }

// alien is a hash of nothing.
var alien = api.Hash{7, 7, 7}

// world is updates by chance, and what can be acted on.
type world struct {
	g       *dag.Graph
	made    []api.Hash // each behind its ancestors
	updates map[api.Hash]api.Update
	objects []object
}

// object is one that an op could have made, and the elements, or nodes, that ops could have put into it.
type object struct {
	id    api.Id
	kind  api.Kind
	parts []api.Id
}

func newWorld() *world {
	return &world{g: dag.New(), updates: map[api.Hash]api.Update{}, objects: []object{{kind: api.Map}}}
}

// add makes an update of the author behind some others.
func (w *world) add(t *testing.T, author int, parents []api.Hash, edits ...api.Edit) api.Hash {
	t.Helper()
	parents = slices.Clone(parents)
	slices.SortFunc(parents, digest.Compare)
	parents = slices.Compact(parents)
	u := api.Update{Author: author, Seq: w.g.Next(author, parents), Parents: parents, Time: int64(len(w.made)), Note: "it's a \"note\"", Edits: edits}
	h, why := w.g.Add(u)
	if why != api.OK {
		t.Fatalf("Add(%v): %d", u, why)
	}
	w.made = append(w.made, h)
	w.updates[h] = u
	for i, e := range edits {
		w.note(edit.Op(e, h, i+1, author))
	}
	return h
}

func (w *world) note(o api.Op) {
	for i, x := range w.objects {
		if x.id == o.Obj && (o.Act == api.Insert || o.Act == api.Grow) {
			w.objects[i].parts = append(x.parts, o.Id)
		}
	}
	if o.Value.Kind >= api.Map && o.Act != api.Grow {
		w.objects = append(w.objects, object{id: o.Id, kind: o.Value.Kind})
	}
}

// past is some updates and all their ancestors, slowly.
func (w *world) past(l []api.Hash) map[api.Hash]bool {
	in := map[api.Hash]bool{}
	for len(l) > 0 {
		h := l[0]
		in[h] = true
		l = append(slices.Clone(l[1:]), w.updates[h].Parents...)
	}
	return in
}

// inOrder are those of some updates that are wanted, in the order.
func (w *world) inOrder(wanted func(h api.Hash) bool) []api.Hash {
	l := slices.DeleteFunc(slices.Clone(w.made), func(h api.Hash) bool { return !wanted(h) })
	slices.SortFunc(l, func(a, b api.Hash) int {
		if w.g.Depth(a) != w.g.Depth(b) {
			return w.g.Depth(a) - w.g.Depth(b)
		}
		return digest.Compare(a, b)
	})
	return l
}

// document is what the ops of updates make that stand in the order.
func (w *world) document(row []api.Hash) *doc.Doc {
	d := doc.New()
	for _, h := range row {
		before := w.past(w.updates[h].Parents)
		for i, e := range w.updates[h].Edits {
			d.Do(edit.Op(e, h, i+1, w.updates[h].Author), func(id api.Id) bool {
				return before[id.Hash] || id.Hash == h && id.N < i+1
			})
		}
	}
	return d
}

func (w *world) all() []api.Hash {
	return w.inOrder(func(api.Hash) bool { return true })
}

// tell is all that a document shows.
func tell(d *doc.Doc) string { return render.Full(render.Nodes(d)) }

// anyObject is mostly no Map: what lies in those goes away too often.
func (w *world) anyObject(r *rand.Rand) object {
	x := pickOne(r, w.objects...)
	for n := 0; n < 3 && x.kind == api.Map; n++ {
		x = pickOne(r, w.objects...)
	}
	return x
}

// anyEdit is a right edit by chance that acts on something that there could be.
func (w *world) anyEdit(r *rand.Rand) api.Edit {
	x := w.anyObject(r)
	obj, key := edit.Ref(x.id, alien), pickOne(r, "a", "b", "c", "d", "e", "f")
	at, to := api.Ref{}, api.Ref{}
	if len(x.parts) > 0 {
		at, to = edit.Ref(pickOne(r, x.parts...), alien), edit.Ref(pickOne(r, x.parts...), alien)
	}
	v := pickOne(r, whole(r.Intn(9)), api.Value{Kind: api.Counter, N: 5}, text("x"), kind(api.Kind(8+r.Intn(4))), kind(api.Kind(8+r.Intn(4))))
	fresh := api.Edit{Act: api.Insert, Obj: obj, At: pickOne(r, at, at, api.Ref{}), Value: v}
	old := []api.Edit{{Act: api.Put, Obj: obj, At: at, Value: v}, {Act: api.Delete, Obj: obj, At: at}, {Act: api.Add, Obj: obj, At: at, N: 2},
		{Act: api.Mark, Obj: obj, At: at, To: to, Key: key, Sides: r.Intn(4), Value: whole(1)}}
	switch x.kind {
	case api.Map:
		return pickOne(r, api.Edit{Act: api.Put, Obj: obj, Key: key, Value: v}, api.Edit{Act: api.Put, Obj: obj, Key: key, Value: v}, api.Edit{Act: api.Delete, Obj: obj, Key: key}, api.Edit{Act: api.Add, Obj: obj, Key: key, N: 3})
	case api.String:
		fresh.Value = text(pickOne(r, "x", "é"))
		old[0].Value = text("y")
	case api.Outline:
		fresh = api.Edit{Act: api.Grow, Obj: obj, At: pickOne(r, at, api.Ref{}), Key: key, Value: whole(1)}
		old = []api.Edit{{Act: api.Put, Obj: obj, At: at, Value: whole(2)}, {Act: api.Prune, Obj: obj, At: at}, {Act: api.Move, Obj: obj, At: at, To: to, Key: key}, {Act: api.Move, Obj: obj, At: at, Key: key}}
	}
	if len(x.parts) == 0 || r.Intn(2) == 0 {
		return fresh
	}
	return pickOne(r, old...)
}

// anyWorld has so many updates by chance.
func anyWorld(t *testing.T, r *rand.Rand, size int) *world {
	t.Helper()
	w := newWorld()
	for len(w.made) < size {
		var parents []api.Hash
		for range r.Intn(4) {
			if len(w.made) > 0 {
				parents = append(parents, w.made[max(0, len(w.made)-1-r.Intn(8))])
			}
		}
		var edits []api.Edit
		for range r.Intn(10) {
			edits = append(edits, w.anyEdit(r))
		}
		w.add(t, 1+r.Intn(4), parents, edits...)
	}
	return w
}

// some are updates by chance, with repetitions.
func (w *world) some(r *rand.Rand) []api.Hash {
	var l []api.Hash
	for range r.Intn(5) {
		l = append(l, pickOne(r, w.made...))
	}
	if len(l) > 0 && r.Intn(2) == 0 {
		l = append(l, l[0])
	}
	return l
}

// ways are those to all that a document shows, into Strings too, and some to nothing.
func ways(d *doc.Doc) [][]api.Step {
	all := [][]api.Step{nil, way(byKey("none")), way(byIndex(0)), way(byKey("a"), byChild(99))}
	for i := 0; i < len(all); i++ {
		if len(all[i]) > 6 {
			continue
		}
		for n := range 6 {
			for _, step := range way(byIndex(n), byChild(n), byKey([...]string{"a", "b", "c", "d", "e", "f"}[n])) {
				longer := append(slices.Clone(all[i]), step)
				if _, why := render.Lies(d, longer); why == api.OK {
					all = append(all, longer)
				}
			}
		}
	}
	return all
}
