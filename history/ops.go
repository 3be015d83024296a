package history

import (
	"iter"

	"estuary/api"
	"estuary/dag"
	"estuary/edit"
)

// updates goes through those of a graph with their ids, in the order.
func updates(g *dag.Graph) iter.Seq2[api.Hash, api.Update] {
	return func(yield func(api.Hash, api.Update) bool) {
		for _, h := range g.Order() {
			u, _ := g.Update(h)
			if !yield(h, u) {
				return
			}
		}
	}
}

// ops goes through those of an update, whose id is at hand: to make it again from the update's bytes would cost more than all else here.
func ops(u api.Update, id api.Hash) iter.Seq[api.Op] {
	return func(yield func(api.Op) bool) {
		for i, e := range u.Edits {
			if !yield(edit.Op(e, id, i+1, u.Author)) {
				return
			}
		}
	}
}

// pick are the ops of a graph that are looked for, in the order.
func pick(g *dag.Graph, wanted func(api.Op) bool) []api.Op {
	var l []api.Op
	for h, u := range updates(g) {
		for o := range ops(u, h) {
			if wanted(o) {
				l = append(l, o)
			}
		}
	}
	return l
}

// target is a place whose ops are looked for.
type target api.Place

// isOf tells whether an op acts on the place. Of a node that is moved or pruned edit.Place tells nothing: it stays where it lies.
func (p target) isOf(o api.Op) bool {
	switch o.Act {
	case api.Put, api.Delete, api.Add, api.Insert, api.Grow:
		return edit.Place(o) == api.Place(p)
	case api.Move, api.Prune:
		return api.Place{Obj: o.Obj, At: o.At} == api.Place(p)
	}
	return false
}

// sight is what an op of a graph had seen.
type sight struct {
	g   *dag.Graph
	own api.Id
}

func (s sight) has(id api.Id) bool {
	if id.Hash == s.own.Hash {
		return id.N < s.own.N
	}
	return s.g.Before(id.Hash, s.own.Hash)
}
