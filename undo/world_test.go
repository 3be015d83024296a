package undo

import (
	"math/rand"
	"slices"
	"strings"
	"testing"

	"estuary/api"
	"estuary/dag"
	"estuary/digest"
	"estuary/edit"
)

func pickOne[T any](r *rand.Rand, l ...T) T { return l[r.Intn(len(l))] }

func whole(n int) api.Value { return api.Value{Kind: api.Int, N: int64(n)} }

func counter(n int) api.Value { return api.Value{Kind: api.Counter, N: int64(n)} }

func text(s string) api.Value { return api.Value{Kind: api.Text, S: s} }

func kind(k api.Kind) api.Value { return api.Value{Kind: k} }

func list(l ...api.Hash) []api.Hash { return l }

// own stands for the id of an update that is not made yet.
var own = api.Hash{7, 7, 7}

// world is updates, and what can be acted on.
type world struct {
	g       *dag.Graph
	made    []api.Hash
	objects []object
}

// object is one that an op could have made, and the elements, or nodes, that ops could have put into it.
type object struct {
	id    api.Id
	kind  api.Kind
	parts []api.Id
}

func newWorld() *world {
	return &world{g: dag.New(), objects: []object{{kind: api.Map}}}
}

// add makes an update of the author behind some others.
func (w *world) add(t *testing.T, author int, parents []api.Hash, edits ...api.Edit) api.Hash {
	t.Helper()
	parents = slices.Clone(parents)
	slices.SortFunc(parents, digest.Compare)
	parents = slices.Compact(parents)
	u := api.Update{Author: author, Seq: w.g.Next(author, parents), Parents: parents, Time: int64(len(w.made)), Edits: edits}
	h, why := w.g.Add(u)
	if why != api.OK {
		t.Fatalf("Add(%v): %d", u, why)
	}
	w.made = append(w.made, h)
	for i, e := range edits {
		w.note(edit.Op(e, h, i+1, author))
	}
	return h
}

// say makes an update of lines behind all that is there. In these %1.2 stands for the edit 2 of the update that was made first, and so on.
func (w *world) say(t *testing.T, author int, lines ...string) api.Hash {
	t.Helper()
	return w.add(t, author, w.g.Heads(), w.lines(t, lines...)...)
}

func (w *world) lines(t *testing.T, lines ...string) []api.Edit {
	t.Helper()
	var l []api.Edit
	for _, s := range lines {
		e, why, at := edit.Parse(w.spelt(s))
		if why != api.OK {
			t.Fatalf("%s: %d at %d", s, why, at)
		}
		l = append(l, e)
	}
	return l
}

// spelt is a line in which the ids are spelt out.
func (w *world) spelt(line string) string {
	for i, h := range w.made {
		line = strings.ReplaceAll(line, "%"+string(rune('1'+i))+".", digest.Hex(h)+"#")
	}
	return line
}

func (w *world) note(o api.Op) {
	for i, x := range w.objects {
		if x.id == o.Obj && (o.Act == api.Insert || o.Act == api.Grow) {
			w.objects[i].parts = append(slices.Clone(x.parts), o.Id)
		}
	}
	if o.Value.Kind >= api.Map && o.Act != api.Grow {
		w.objects = append(w.objects, object{id: o.Id, kind: o.Value.Kind})
	}
}

// anyEdit is a right edit by chance that acts on something that there could be.
func (w *world) anyEdit(r *rand.Rand) api.Edit {
	x := pickOne(r, w.objects[max(0, r.Intn(len(w.objects)+3)-3):]...)
	obj, key := edit.Ref(x.id, own), pickOne(r, "a", "b", "c", "d")
	at, to := api.Ref{}, api.Ref{}
	if len(x.parts) > 0 {
		at, to = edit.Ref(pickOne(r, x.parts...), own), edit.Ref(pickOne(r, x.parts...), own)
	}
	v := pickOne(r, whole(r.Intn(3)), whole(r.Intn(3)), counter(5), counter(5), text("x"), kind(api.Kind(8+r.Intn(4))))
	fresh := api.Edit{Act: api.Insert, Obj: obj, At: pickOne(r, at, at, api.Ref{}), Value: v}
	old := []api.Edit{{Act: api.Put, Obj: obj, At: at, Value: v}, {Act: api.Delete, Obj: obj, At: at}, {Act: api.Add, Obj: obj, At: at, N: int64(r.Intn(5))}, {Act: api.Mark, Obj: obj, At: at, To: to, Key: key, Value: whole(1)}}
	switch x.kind {
	case api.Map:
		add := api.Edit{Act: api.Add, Obj: obj, Key: key, N: int64(r.Intn(5))}
		return pickOne(r, api.Edit{Act: api.Put, Obj: obj, Key: key, Value: v}, api.Edit{Act: api.Put, Obj: obj, Key: key, Value: v}, api.Edit{Act: api.Delete, Obj: obj, Key: key}, add, add)
	case api.String:
		fresh.Value = text(pickOne(r, "x", "é", "xy"))
		old[0].Value = text(pickOne(r, "x", "y", "xy"))
	case api.Outline:
		fresh = api.Edit{Act: api.Grow, Obj: obj, At: pickOne(r, at, api.Ref{}), Key: key, Value: pickOne(r, whole(1), counter(1))}
		old = []api.Edit{{Act: api.Put, Obj: obj, At: at, Value: pickOne(r, whole(2), counter(1))}, {Act: api.Add, Obj: obj, At: at, N: 3}, {Act: api.Prune, Obj: obj, At: at}, {Act: api.Move, Obj: obj, At: at, To: to, Key: key}, {Act: api.Move, Obj: obj, At: at, To: to, Key: key}, {Act: api.Move, Obj: obj, At: at, Key: key}}
	}
	if len(x.parts) == 0 || len(x.parts) < 5 && r.Intn(2) == 0 {
		return fresh
	}
	return pickOne(r, old...)
}

// anyEdits are some of one update, which may name one another.
func (w *world) anyEdits(r *rand.Rand, most int) []api.Edit {
	objects := slices.Clone(w.objects)
	var l []api.Edit
	for range r.Intn(most + 1) {
		e := w.anyEdit(r)
		l = append(l, e)
		w.note(edit.Op(e, own, len(l), 1))
	}
	w.objects = objects
	return l
}

// anyWorld has so many updates by chance, and at most MaxParents heads.
func anyWorld(t *testing.T, r *rand.Rand, size int) *world {
	t.Helper()
	w := newWorld()
	w.add(t, 1, nil, w.lines(t, `put . . "a" {}`, `put . . "b" []`, `put . . "c" ''`, `put . . "d" <>`, `insert #2 . +1`, `insert #3 . "a"`, `grow #4 . "a" +1`, `grow #4 #7 "b" 1`)...)
	for len(w.made) < size {
		parents := w.g.Heads()
		parents = parents[:min(len(parents), api.MaxParents)]
		if r.Intn(3) == 0 {
			parents = list(w.made[max(0, len(w.made)-1-r.Intn(6))])
		}
		w.add(t, pickOne(r, 1, 1, 1, 2, 3), parents, w.anyEdits(r, 8)...)
	}
	for len(w.g.Heads()) > api.MaxParents {
		w.add(t, 4, w.g.Heads()[:api.MaxParents])
	}
	return w
}
