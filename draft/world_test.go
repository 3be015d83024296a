package draft

import (
	"math/rand"
	"slices"
	"testing"

	"estuary/api"
	"estuary/dag"
	"estuary/digest"
	"estuary/edit"
)

func pickOne[T any](r *rand.Rand, l ...T) T { return l[r.Intn(len(l))] }

func whole(n int) api.Value { return api.Value{Kind: api.Int, N: int64(n)} }

func counter(n int) api.Value { return api.Value{Kind: api.Counter, N: int64(n)} }

func text(s string) api.Value { return api.Value{Kind: api.Text, S: s} }

func kind(k api.Kind) api.Value { return api.Value{Kind: k} }

func put(key string, v api.Value) api.Edit { return api.Edit{Act: api.Put, Key: key, Value: v} }

func list(l ...api.Hash) []api.Hash { return l }

func byKey(key string) api.Step { return api.Step{Kind: api.ByKey, Key: key} }

func byIndex(n int) api.Step { return api.Step{Kind: api.ByIndex, N: n} }

func byChild(n int) api.Step { return api.Step{Kind: api.ByChild, N: n} }

func by(l ...api.Step) []api.Step { return l }

// alien is a hash of nothing.
var alien = api.Hash{7, 7, 7}

// world is updates by chance, and what can be acted on.
type world struct {
	g       *dag.Graph
	made    []api.Hash
	objects []object
}

// object is one that an op could have made, and the elements, or nodes, that ops could have put into it.
type object struct {
	id    api.Id
	kind  api.Kind
	parts []api.Id
}

func newWorld() *world {
	return &world{g: dag.New(), objects: []object{{kind: api.Map}}}
}

// add makes an update of the author behind some others.
func (w *world) add(t *testing.T, author int, parents []api.Hash, edits ...api.Edit) api.Hash {
	t.Helper()
	parents = slices.Clone(parents)
	slices.SortFunc(parents, digest.Compare)
	parents = slices.Compact(parents)
	u := api.Update{Author: author, Seq: w.g.Next(author, parents), Parents: parents, Time: int64(len(w.made)), Edits: edits}
	h, why := w.g.Add(u)
	if why != api.OK {
		t.Fatalf("Add(%v): %d", u, why)
	}
	w.made = append(w.made, h)
	for i, e := range edits {
		w.note(edit.Op(e, h, i+1, author))
	}
	return h
}

func (w *world) note(o api.Op) {
	for i, x := range w.objects {
		if x.id == o.Obj && (o.Act == api.Insert || o.Act == api.Grow) {
			w.objects[i].parts = append(x.parts, o.Id)
		}
	}
	if o.Value.Kind >= api.Map && o.Act != api.Grow {
		w.objects = append(w.objects, object{id: o.Id, kind: o.Value.Kind})
	}
}

func anyKey(r *rand.Rand) string { return pickOne(r, "a", "b", "c", "d", "e", "f") }

func anyValue(r *rand.Rand) api.Value {
	return pickOne(r, whole(r.Intn(9)), counter(5), text("x"), kind(api.Kind(8+r.Intn(4))), kind(api.Kind(8+r.Intn(4))))
}

// anyEdit is a right edit by chance that acts on something that there could be.
func (w *world) anyEdit(r *rand.Rand) api.Edit {
	x := pickOne(r, w.objects...)
	for n := 0; n < 3 && x.kind == api.Map; n++ {
		x = pickOne(r, w.objects...)
	}
	obj, key, v := edit.Ref(x.id, alien), anyKey(r), anyValue(r)
	at, to := api.Ref{}, api.Ref{}
	if len(x.parts) > 0 {
		at, to = edit.Ref(pickOne(r, x.parts...), alien), edit.Ref(pickOne(r, x.parts...), alien)
	}
	fresh := api.Edit{Act: api.Insert, Obj: obj, At: pickOne(r, at, at, api.Ref{}), Value: v}
	old := []api.Edit{{Act: api.Put, Obj: obj, At: at, Value: v}, {Act: api.Delete, Obj: obj, At: at}, {Act: api.Add, Obj: obj, At: at, N: 2},
		{Act: api.Mark, Obj: obj, At: at, To: to, Key: key, Sides: r.Intn(4), Value: whole(1)}}
	switch x.kind {
	case api.Map:
		return pickOne(r, api.Edit{Act: api.Put, Obj: obj, Key: key, Value: v}, api.Edit{Act: api.Put, Obj: obj, Key: key, Value: v}, api.Edit{Act: api.Delete, Obj: obj, Key: key}, api.Edit{Act: api.Add, Obj: obj, Key: key, N: 3})
	case api.String:
		fresh.Value = text(pickOne(r, "x", "é"))
		old[0].Value = text("y")
	case api.Outline:
		fresh = api.Edit{Act: api.Grow, Obj: obj, At: pickOne(r, at, api.Ref{}), Key: key, Value: whole(1)}
		old = []api.Edit{{Act: api.Put, Obj: obj, At: at, Value: whole(2)}, {Act: api.Prune, Obj: obj, At: at}, {Act: api.Move, Obj: obj, At: at, To: to, Key: key}, {Act: api.Move, Obj: obj, At: at, Key: key}}
	}
	if len(x.parts) == 0 || r.Intn(2) == 0 {
		return fresh
	}
	return pickOne(r, old...)
}

// anyWorld has so many updates by chance, mostly behind one that puts an object of each kind.
func anyWorld(t *testing.T, r *rand.Rand, size int) *world {
	t.Helper()
	w := newWorld()
	if size > 0 && r.Intn(5) > 0 {
		own := func(n int) api.Ref { return api.Ref{Kind: api.RefOwn, N: n} }
		w.add(t, 1, nil, put("a", kind(api.Map)), put("b", kind(api.List)), put("c", kind(api.String)), put("d", kind(api.Outline)), put("e", counter(1)),
			api.Edit{Act: api.Insert, Obj: own(2), Value: counter(1)}, api.Edit{Act: api.Insert, Obj: own(2), Value: kind(api.String)}, api.Edit{Act: api.Insert, Obj: own(7), Value: text("a")},
			api.Edit{Act: api.Insert, Obj: own(3), Value: text("a")}, api.Edit{Act: api.Insert, Obj: own(3), Value: text("b")}, api.Edit{Act: api.Insert, Obj: own(3), Value: text("c")},
			api.Edit{Act: api.Grow, Obj: own(4), Key: "a", Value: counter(1)}, api.Edit{Act: api.Grow, Obj: own(4), Key: "b", Value: whole(1)}, api.Edit{Act: api.Grow, Obj: own(4), At: own(12), Key: "b", Value: whole(1)}, api.Edit{Act: api.Grow, Obj: own(4), At: own(14), Key: "b", Value: whole(1)})
	}
	for len(w.made) < size {
		var parents []api.Hash
		for range r.Intn(4) {
			if len(w.made) > 0 {
				parents = append(parents, w.made[max(0, len(w.made)-1-r.Intn(8))])
			}
		}
		var edits []api.Edit
		for range r.Intn(10) {
			edits = append(edits, w.anyEdit(r))
		}
		w.add(t, 1+r.Intn(4), parents, edits...)
	}
	return w
}
