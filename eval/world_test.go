package eval

import (
	"fmt"
	"math/rand"
	"slices"
	"strings"
	"testing"

	"estuary/api"
	"estuary/dag"
	"estuary/digest"
	"estuary/doc"
	"estuary/edit"
)

// world is updates by chance, and what the document says of them, told slowly.
type world struct {
	g       *dag.Graph
	made    []api.Hash // as they were made, each behind its ancestors
	updates map[api.Hash]api.Update
	before  map[api.Hash]map[api.Hash]bool
	deep    map[api.Hash]int
	objects []object
}

// object is one that an op could have made, and the elements, or nodes, that ops could have put into it.
type object struct {
	id    api.Id
	kind  api.Kind
	parts []api.Id
}

func newWorld() *world {
	return &world{g: dag.New(), updates: map[api.Hash]api.Update{}, before: map[api.Hash]map[api.Hash]bool{}, deep: map[api.Hash]int{}, objects: []object{{kind: api.Map}}}
}

// add makes an update of the author behind some others.
func (w *world) add(t *testing.T, author int, parents []api.Hash, edits ...api.Edit) api.Hash {
	t.Helper()
	parents = slices.Clone(parents)
	slices.SortFunc(parents, digest.Compare)
	parents = slices.Compact(parents)
	u := api.Update{Author: author, Seq: w.g.Next(author, parents), Parents: parents, Time: int64(len(w.made)), Edits: edits}
	h, why := w.g.Add(u)
	if why != api.OK {
		t.Fatalf("Add(%v): %d", u, why)
	}
	w.note(h, u)
	return h
}

func (w *world) note(h api.Hash, u api.Update) {
	w.made = append(w.made, h)
	w.updates[h] = u
	w.before[h] = map[api.Hash]bool{}
	for _, p := range u.Parents {
		w.deep[h] = max(w.deep[h], w.deep[p])
		w.before[h][p] = true
		for x := range w.before[p] {
			w.before[h][x] = true
		}
	}
	w.deep[h]++
	for i, e := range u.Edits {
		w.noteEdit(edit.Op(e, h, i+1, u.Author))
	}
}

func (w *world) noteEdit(o api.Op) {
	for i, x := range w.objects {
		if x.id == o.Obj && (o.Act == api.Insert || o.Act == api.Grow) {
			w.objects[i].parts = append(x.parts, o.Id)
		}
	}
	if o.Value.Kind >= api.Map && o.Act != api.Grow {
		w.objects = append(w.objects, object{id: o.Id, kind: o.Value.Kind})
	}
}

// compare is the order.
func (w *world) compare(a, b api.Hash) int {
	if w.deep[a] != w.deep[b] {
		return w.deep[a] - w.deep[b]
	}
	return strings.Compare(string(a[:]), string(b[:]))
}

// past is the past of some updates, in the order; hashes of nothing count for nothing.
func (w *world) past(l []api.Hash) []api.Hash {
	in := map[api.Hash]bool{}
	for _, h := range l {
		if _, is := w.updates[h]; is {
			in[h] = true
		}
		for x := range w.before[h] {
			in[x] = true
		}
	}
	var past []api.Hash
	for h := range in {
		past = append(past, h)
	}
	slices.SortFunc(past, w.compare)
	return past
}

// document is what the ops of some updates make, done one behind the other in the order, less those that are void.
func (w *world) document(l, void []api.Hash) *doc.Doc {
	d := doc.New()
	for _, h := range w.past(l) {
		for i, e := range w.updates[h].Edits {
			seen := func(id api.Id) bool {
				return w.before[h][id.Hash] || id.Hash == h && id.N < i+1
			}
			if !slices.Contains(void, h) {
				d.Do(edit.Op(e, h, i+1, w.updates[h].Author), seen)
			}
		}
	}
	return d
}

// tell is all that a document tells of what is in this world.
func (w *world) tell(d *doc.Doc) string {
	var s strings.Builder
	fmt.Fprintln(&s, d.Objects())
	for i, x := range w.objects {
		fmt.Fprintln(&s, i, d.Kind(x.id), d.Deep(x.id), d.Keys(x.id), d.Live(x.id), d.Kids(x.id, api.Id{}), d.Spans(x.id))
		for _, k := range d.Keys(x.id) {
			fmt.Fprintln(&s, d.Entries(api.Place{Obj: x.id, Key: k}))
		}
		for _, part := range x.parts {
			fmt.Fprintln(&s, d.Entries(api.Place{Obj: x.id, At: part}), d.Kids(x.id, part), d.Position(x.id, part))
		}
	}
	return s.String()
}

// ref says an Id in an update whose own id is not known yet: its own ops have no hash.
func ref(id api.Id) api.Ref { return edit.Ref(id, api.Hash{}) }

func pick[T any](r *rand.Rand, l ...T) T { return l[r.Intn(len(l))] }

func whole(n int) api.Value { return api.Value{Kind: api.Int, N: int64(n)} }

// anyEdit is a right edit by chance that acts on something that there could be.
func (w *world) anyEdit(r *rand.Rand) api.Edit {
	x := pick(r, w.objects...)
	key := pick(r, "a", "b", "c")
	part, other := api.Id{}, api.Id{}
	if len(x.parts) > 0 {
		part, other = pick(r, x.parts...), pick(r, x.parts...)
	}
	v := pick(r, whole(r.Intn(9)), api.Value{Kind: api.Counter, N: 5}, api.Value{Kind: api.Text, S: "x"}, api.Value{Kind: api.Kind(8 + r.Intn(4))})
	if x.kind == api.Map {
		return pick(r, api.Edit{Act: api.Put, Obj: ref(x.id), Key: key, Value: v}, api.Edit{Act: api.Put, Obj: ref(x.id), Key: key, Value: v}, api.Edit{Act: api.Delete, Obj: ref(x.id), Key: key}, api.Edit{Act: api.Add, Obj: ref(x.id), Key: key, N: 3})
	}
	if x.kind == api.String {
		v = api.Value{Kind: api.Text, S: pick(r, "x", "y", "é")}
	}
	if x.kind == api.Outline {
		return w.outlineEdit(r, x.id, part, other, key)
	}
	fresh := api.Edit{Act: api.Insert, Obj: ref(x.id), At: ref(pick(r, part, part, api.Id{})), Value: v}
	if part == (api.Id{}) {
		return fresh
	}
	return pick(r, fresh, fresh, api.Edit{Act: api.Put, Obj: ref(x.id), At: ref(part), Value: v}, api.Edit{Act: api.Delete, Obj: ref(x.id), At: ref(part)},
		api.Edit{Act: api.Mark, Obj: ref(x.id), At: ref(part), To: ref(pick(r, other, api.Id{})), Key: key, Sides: r.Intn(4), Value: whole(r.Intn(2))})
}

func (w *world) outlineEdit(r *rand.Rand, obj, node, other api.Id, key string) api.Edit {
	grow := api.Edit{Act: api.Grow, Obj: ref(obj), At: ref(node), Key: key, Value: whole(r.Intn(9))}
	if node == (api.Id{}) {
		return grow
	}
	return pick(r, grow, api.Edit{Act: api.Grow, Obj: ref(obj), Key: key, Value: whole(1)}, api.Edit{Act: api.Prune, Obj: ref(obj), At: ref(node)},
		api.Edit{Act: api.Move, Obj: ref(obj), At: ref(node), To: ref(other), Key: key}, api.Edit{Act: api.Move, Obj: ref(obj), At: ref(node), To: ref(other), Key: key})
}

// anyWorld has so many updates by chance.
func anyWorld(t *testing.T, r *rand.Rand, size int) *world {
	t.Helper()
	w := newWorld()
	for len(w.made) < size {
		var parents []api.Hash
		for range r.Intn(4) {
			if len(w.made) > 0 {
				parents = append(parents, w.made[max(0, len(w.made)-1-r.Intn(10))])
			}
		}
		var edits []api.Edit
		for range r.Intn(5) {
			edits = append(edits, w.anyEdit(r))
		}
		w.add(t, 1+r.Intn(4), parents, edits...)
	}
	return w
}

// anyRow is some updates of the world, with their ancestors, each behind them, else by chance.
func (w *world) anyRow(r *rand.Rand, l []api.Hash) []api.Hash {
	var row []api.Hash
	left := slices.Clone(l)
	r.Shuffle(len(left), func(i, j int) { left[i], left[j] = left[j], left[i] })
	for len(left) > 0 {
		i := slices.IndexFunc(left, func(h api.Hash) bool {
			return !slices.ContainsFunc(w.updates[h].Parents, func(p api.Hash) bool { return !slices.Contains(row, p) })
		})
		row = append(row, left[i])
		left = slices.Delete(left, i, i+1)
	}
	return row
}
