package policy

import (
	"estuary/api"
	"estuary/dag"
	"estuary/places"
)

// gift is an update, by its place in a row, and an author of whom it has a valid Grant or Revoke.
type gift struct {
	place, who int
}

// ledger is what the updates of a row say about ranks.
type ledger struct {
	room  int
	at    map[api.Hash]int   // the place of each update
	past  []places.Set       // of each: its place and those of its ancestors
	valid map[int]places.Set // of each author: the updates that have valid edits of them
	ranks map[gift]int       // what the last one of these edits there gives: it had seen those ahead of it
	void  []api.Hash
}

// read goes through a row of a graph's updates, in the order, that has with each its ancestors. When the rank of an update's author is asked for, nothing of its own is taken in yet.
func read(g *dag.Graph, row []api.Hash) *ledger {
	l := &ledger{room: len(row), at: map[api.Hash]int{}, valid: map[int]places.Set{}, ranks: map[gift]int{}}
	for place, h := range row {
		u, _ := g.Update(h)
		l.at[h] = place
		l.past = append(l.past, l.pastOf(place, u.Parents))
		if rank := l.rankIn(l.past[place], u.Author); may(write, rank, stakes{}) {
			l.hear(place, rank, u.Edits)
		} else {
			l.void = append(l.void, h)
		}
	}
	return l
}

// pastOf is the places of an update and its ancestors.
func (l *ledger) pastOf(place int, parents []api.Hash) places.Set {
	past := places.New(place + 1)
	for _, p := range parents {
		past.Join(l.past[l.at[p]])
	}
	past.Put(place)
	return past
}

// hear takes in what the update at a place, by an author of a rank, says about others. Each edit finds those ahead of it there taken in, and none behind it.
func (l *ledger) hear(place, rank int, edits []api.Edit) {
	for _, e := range edits {
		deed, is := deedOf(e)
		if !is {
			continue
		}
		s := stakes{given: int(e.N), had: l.rankIn(l.past[place], e.Who)}
		if may(deed, rank, s) {
			l.put(gift{place, e.Who}, s[given])
		}
	}
}

// put takes in a valid edit. (A Revoke has the N 0.)
func (l *ledger) put(to gift, rank int) {
	valid := l.valid[to.who].Copied(to.place + 1)
	valid.Put(to.place)
	l.valid[to.who] = valid
	l.ranks[to] = rank
}

// rank is an author's in all of the row.
func (l *ledger) rank(author int) int {
	return l.rankIn(places.Full(l.room), author)
}

// rankIn is an author's in a set of updates that has with each its ancestors. The last of the valid edits there is one that no other had seen; so is, when all that it had seen is dropped, the last of what is left.
func (l *ledger) rankIn(set places.Set, author int) int {
	if author == founder {
		return api.MaxRank
	}
	left := l.valid[author].Met(set)
	place := left.Below(l.room)
	if place < 0 {
		return 0
	}
	least := api.MaxRank
	for ; place >= 0; place = left.Below(place) {
		least = min(least, l.ranks[gift{place, author}])
		left.Drop(l.past[place])
	}
	return least
}
