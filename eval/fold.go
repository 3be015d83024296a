package eval

import (
	"slices"

	"estuary/api"
	"estuary/dag"
	"estuary/doc"
	"estuary/edit"
)

const room = 16 // how many updates are read ahead of the one that is done

// change is an update as it is done.
type change struct {
	id  api.Hash
	ops []api.Op
}

// Fold is the document that some updates of a graph make, without those that are void.
func Fold(g *dag.Graph, l []api.Hash, void []api.Hash) *doc.Doc {
	d := doc.New()
	for u := range read(g, without(g.Past(l), void)) {
		u.do(g, d)
	}
	return d
}

// without is a row without some, in its own memory.
func without(row []api.Hash, some []api.Hash) []api.Hash {
	out := make(map[api.Hash]struct{}, len(some))
	for _, h := range some {
		out[h] = struct{}{}
	}
	return slices.DeleteFunc(row, func(h api.Hash) bool {
		_, is := out[h]
		return is
	})
}

// read hands over updates of a graph, one behind the other, while those ahead are done.
func read(g *dag.Graph, row []api.Hash) <-chan change {
	out := make(chan change, room)
	go func() {
		for _, h := range row {
			u, _ := g.Update(h)
			out <- change{h, ops(u, h)}
		}
		close(out)
	}()
	return out
}

// ops are an update's. Its id is at hand here, so that its bytes need not be made again for it.
func ops(u api.Update, id api.Hash) []api.Op {
	l := make([]api.Op, len(u.Edits))
	for i, e := range u.Edits {
		l[i] = edit.Op(e, id, i+1, u.Author)
	}
	return l
}

// do does the ops of an update, each with what it had seen; how each is undone.
func (u change) do(g *dag.Graph, d *doc.Doc) []*doc.Back {
	backs := make([]*doc.Back, 0, len(u.ops))
	for _, o := range u.ops {
		backs = append(backs, d.Do(o, seenBy(g, o.Id)))
	}
	return backs
}

// seenBy tells which ops one had seen: those of the updates that are ancestors of its own, and those ahead of it there.
func seenBy(g *dag.Graph, own api.Id) func(api.Id) bool {
	return func(id api.Id) bool {
		if id.Hash == own.Hash {
			return id.N < own.N
		}
		return g.Before(id.Hash, own.Hash)
	}
}
