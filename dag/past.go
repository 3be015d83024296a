package dag

import (
	"estuary/api"
	"estuary/places"
)

// set is the places of some updates.
func (g *Graph) set(l []api.Hash) places.Set {
	r := places.New(g.Len())
	for _, h := range l {
		if n := g.find(h); n != nil {
			r.Put(n.place)
		}
	}
	return r
}

// past is the places of some updates and all their ancestors.
func (g *Graph) past(l []api.Hash) places.Set {
	r := places.New(g.Len())
	for _, h := range l {
		n := g.find(h)
		if n != nil && !r.Has(n.place) { // whoever is in has brought its ancestors along
			r.Join(n.past)
		}
	}
	return r
}

// tops are those at some places that are no ancestors of others there. Gone through from the last one on, each comes behind all that it could be an ancestor of.
func (g *Graph) tops(r places.Set) []api.Hash {
	var l []api.Hash
	under := places.New(g.Len())
	for n := range g.back() {
		if r.Has(n.place) && !under.Has(n.place) {
			l = append(l, n.id)
			under.Join(n.past)
		}
	}
	return rising(l)
}

// Heads are those that are parents of none.
func (g *Graph) Heads() []api.Hash {
	return g.tops(places.Full(g.Len()))
}

// Past is some updates and all their ancestors, in the order.
func (g *Graph) Past(l []api.Hash) []api.Hash {
	var past []api.Hash
	r := g.past(l)
	for n := range g.all() {
		if r.Has(n.place) {
			past = append(past, n.id)
		}
	}
	return past
}

// Tops are those of some updates that are no ancestors of others of them.
func (g *Graph) Tops(l []api.Hash) []api.Hash {
	return g.tops(g.set(l))
}

// Meet is the tops of what is past for both lists.
func (g *Graph) Meet(a, b []api.Hash) []api.Hash {
	return g.tops(g.past(a).Met(g.past(b)))
}

// Lacks are the hashes of a list that are not in.
func (g *Graph) Lacks(l []api.Hash) []api.Hash {
	var lacks []api.Hash
	for _, h := range l {
		if !g.Has(h) {
			lacks = append(lacks, h)
		}
	}
	return rising(lacks)
}

// Next is the number that an author's next update has whose parents are these.
func (g *Graph) Next(author int, parents []api.Hash) int {
	seq := 0
	r := g.past(parents)
	for n := range g.all() {
		if n.update.Author == author && r.Has(n.place) {
			seq = max(seq, n.update.Seq)
		}
	}
	return seq + 1
}
