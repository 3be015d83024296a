package keys

import (
	"cmp"
	"slices"

	"estuary/api"
	"estuary/dag"
	"estuary/digest"
)

// turn is what an author is to say one thing with.
type turn struct {
	author, seq int
}

// Forks are the authors of a graph that said two things at one time.
func Forks(g *dag.Graph) []api.Fork {
	var l []api.Fork
	for t, ids := range said(g) {
		if len(ids) > 1 {
			slices.SortFunc(ids, digest.Compare)
			l = append(l, api.Fork{Author: t.author, Seq: t.seq, Ids: ids})
		}
	}
	slices.SortFunc(l, func(a, b api.Fork) int {
		return cmp.Or(cmp.Compare(a.Author, b.Author), cmp.Compare(a.Seq, b.Seq))
	})
	return l
}

// said is the updates of a graph by their turns.
func said(g *dag.Graph) map[turn][]api.Hash {
	turns := map[turn][]api.Hash{}
	for _, h := range g.Order() {
		u, _ := g.Update(h)
		t := turn{u.Author, u.Seq}
		turns[t] = append(turns[t], h)
	}
	return turns
}

// Liars are the authors who fork.
func Liars(g *dag.Graph) []int {
	var l []int
	for _, f := range Forks(g) {
		l = append(l, f.Author)
	}
	return slices.Compact(l)
}
