// Package commit is no layer, but what replica and draft have in common: how an author's next update stands in a graph. See ../../shared/doc/16-replica.md.
package commit

import (
	"cmp"
	"slices"

	"estuary/api"
	"estuary/dag"
	"estuary/digest"
)

// Over is an author's next update over a graph, which says nothing yet: its parents and its number.
func Over(g *dag.Graph, author int) api.Update {
	l := parents(g, author)
	return api.Update{Parents: l, Author: author, Seq: g.Next(author, l)}
}

// parents are the heads, if they are not too many.
func parents(g *dag.Graph, author int) []api.Hash {
	heads := g.Heads()
	if len(heads) <= api.MaxParents {
		return heads
	}
	own := newest(g, author)
	slices.SortFunc(heads, func(a, b api.Hash) int {
		return cmp.Or(cmp.Compare(knows(g, b, own), knows(g, a, own)), cmp.Compare(g.Place(b), g.Place(a)))
	})
	chosen := slices.Clone(heads[:api.MaxParents])
	slices.SortFunc(chosen, digest.Compare)
	return chosen
}

// newest is an author's update with the greatest Seq, of several the first in the order; none, if there is none.
func newest(g *dag.Graph, author int) []api.Hash {
	seq := 0
	var newest []api.Hash
	for _, h := range g.Order() {
		if u, _ := g.Update(h); u.Author == author && u.Seq > seq {
			seq, newest = u.Seq, []api.Hash{h}
		}
	}
	return newest
}

// knows is 1, if one of these is in the past of an update, else 0.
func knows(g *dag.Graph, h api.Hash, l []api.Hash) int {
	for _, x := range l {
		if x == h || g.Before(x, h) {
			return 1
		}
	}
	return 0
}
