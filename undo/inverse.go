package undo

import (
	"slices"

	"estuary/api"
	"estuary/dag"
	"estuary/value"
)

// task is an update that is to be undone.
type task struct {
	done       []api.Op // its ops, but for those that were passed over
	ahead, now *state
	taken      map[api.Place]struct{} // the places that are not free
}

// Inverse is the edits that undo an update, as far as nobody else wrote there since.
func Inverse(g *dag.Graph, h api.Hash) ([]api.Edit, api.Errno) {
	u, is := g.Update(h)
	if !is {
		return nil, api.ErrNone
	}
	t := &task{ahead: stateAt(g, u.Parents), now: stateAt(g, g.Heads()), taken: taken(g, h, u.Author)}
	behind := t.ahead.doc.Fork()
	for _, o := range ops(g, h) {
		if does(behind, g, o) {
			t.done = append(t.done, o)
		}
	}
	return t.edits(), api.OK
}

// taken are the places on which updates since another one act: those of others than its author that are not in its past.
func taken(g *dag.Graph, h api.Hash, author int) map[api.Place]struct{} {
	places := map[api.Place]struct{}{}
	for _, x := range g.Order() {
		if g.Before(x, h) {
			continue
		}
		for _, o := range ops(g, x) {
			if o.Author != author {
				places[target(o)] = struct{}{}
			}
		}
	}
	return places
}

// undoing is how ops of some acts are undone: by edits of each place, or node, that is met.
type undoing struct {
	met   map[api.Place]struct{}
	edits func(p api.Place) []api.Edit
}

// once is the edits of a place that is met for the first time.
func (u undoing) once(p api.Place) []api.Edit {
	if _, met := u.met[p]; met {
		return nil
	}
	u.met[p] = struct{}{}
	return u.edits(p)
}

// undoings are, by their acts, how ops are undone; what has none stays as it is.
func (t *task) undoings() map[api.Act]undoing {
	lay := undoing{met: map[api.Place]struct{}{}, edits: t.layBack}
	add := undoing{met: map[api.Place]struct{}{}, edits: t.addBack}
	set := undoing{met: map[api.Place]struct{}{}, edits: t.setBack}
	return map[api.Act]undoing{
		api.Put: lay, api.Delete: lay, api.Insert: lay,
		api.Add:  add,
		api.Grow: set, api.Move: set, api.Prune: set,
	}
}

// edits are those that undo the update, from its last op to its first.
func (t *task) edits() []api.Edit {
	var l []api.Edit
	by := t.undoings()
	for _, o := range slices.Backward(t.done) {
		if u, is := by[o.Act]; is {
			l = append(l, u.once(target(o))...)
		}
	}
	return l
}

func (t *task) free(p api.Place) bool {
	_, is := t.taken[p]
	return !is
}

// layBack lets what was shown at a place be shown again. Objects do not come back.
func (t *task) layBack(p api.Place) []api.Edit {
	was, lay := t.ahead.doc.Top(p)
	is, lies := t.now.doc.Top(p)
	switch {
	case !t.free(p) || lay == lies && was.Value == is.Value:
		return nil
	case lay && value.Scalar(was.Value.Kind):
		e := editAt(api.Put, p)
		e.Value = was.Value
		return []api.Edit{e}
	case !lay && t.now.doc.Kind(p.Obj) != api.Outline:
		return []api.Edit{editAt(api.Delete, p)}
	}
	return nil
}

// addBack takes away all that the update added at a place, if it did nothing else there. Others may have added, too.
func (t *task) addBack(p api.Place) []api.Edit {
	e := editAt(api.Add, p)
	for _, o := range t.done {
		switch {
		case target(o) != p:
		case o.Act == api.Add:
			e.N -= o.N
		case o.Act == api.Put || o.Act == api.Delete || o.Act == api.Insert:
			return nil
		}
	}
	if top, _ := t.now.doc.Top(p); top.Value.Kind != api.Counter {
		return nil
	}
	return []api.Edit{e}
}

// setBack lets a node stand where it stood, unless that lies under it now.
func (t *task) setBack(p api.Place) []api.Edit {
	was, is := t.ahead.posts[p], t.now.posts[p]
	switch {
	case !t.free(p) || was == is:
		return nil
	case was == post{}:
		return []api.Edit{editAt(api.Prune, p)}
	case t.now.liesIn(p.Obj, was.under, p.At):
		return nil
	}
	e := editAt(api.Move, p)
	e.To, e.Key = ref(was.under), was.key
	return []api.Edit{e}
}

// editAt is an edit that acts on a place.
func editAt(a api.Act, p api.Place) api.Edit {
	return api.Edit{Act: a, Obj: ref(p.Obj), At: ref(p.At), Key: p.Key}
}

// ref names something by its Id: what is undone is never of the update that undoes it.
func ref(id api.Id) api.Ref {
	if id == (api.Id{}) {
		return api.Ref{}
	}
	return api.Ref{Kind: api.RefOp, Hash: id.Hash, N: id.N}
}
