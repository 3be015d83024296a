package pack

import (
	"estuary/api"
	"estuary/update"
	"estuary/wire"
)

// columns are what some updates say, like things one behind the other.
type columns struct {
	parents []uint64 // how many each has
	places  []uint64 // of each parent: how many places ahead it stands in the list, or 0
	hashes  []api.Hash
	authors []uint64
	seqs    []int64
	times   []int64
	notes   []string
	counts  []uint64 // how many edits each has
	edits   []api.Edit
}

// kin is where updates stand in a list; of several of one id it is the last.
type kin map[api.Hash]int

// ahead is how many places ahead of a place an update stands; 0, if it does not.
func (k kin) ahead(h api.Hash, place int) uint64 {
	if at, is := k[h]; is {
		return uint64(place - at)
	}
	return 0
}

// cut makes columns of right updates with these ids.
func cut(l []api.Update, ids []api.Hash) *columns {
	c := &columns{}
	k := kin{}
	for i, u := range l {
		c.parents = append(c.parents, uint64(len(u.Parents)))
		for _, h := range u.Parents {
			c.addParent(h, k.ahead(h, i))
		}
		c.authors = append(c.authors, uint64(u.Author))
		c.seqs = append(c.seqs, int64(u.Seq))
		c.times = append(c.times, u.Time)
		c.notes = append(c.notes, u.Note)
		c.counts = append(c.counts, uint64(len(u.Edits)))
		c.edits = append(c.edits, u.Edits...)
		k[ids[i]] = i
	}
	return c
}

func (c *columns) addParent(h api.Hash, place uint64) {
	c.places = append(c.places, place)
	if place == 0 {
		c.hashes = append(c.hashes, h)
	}
}

func (c *columns) write(w *wire.Writer) {
	column(w, asRuns(), c.parents)
	column(w, asRuns(), c.places)
	column(w, asHashes(), c.hashes)
	column(w, asRuns(), c.authors)
	column(w, asDeltas(), c.seqs)
	column(w, asDeltas(), c.times)
	column(w, asNotes(), c.notes)
	column(w, asRuns(), c.counts)
	column(w, asEdits(), c.edits)
}

// readColumns reads the columns of n updates.
func readColumns(n int, parts [columnCount]part) (*columns, error) {
	r := &reading{parts: parts[:]}
	c := &columns{}
	c.parents = next(r, asRuns(), n, upTo[uint64](api.MaxParents))
	c.places = next(r, asRuns(), sum(c.parents), inList(c.parents))
	c.hashes = next(r, asHashes(), zeros(c.places), whatever)
	c.authors = next(r, asRuns(), n, upTo[uint64](mostNumber))
	c.seqs = next(r, asDeltas(), n, upTo[int64](mostNumber))
	c.times = next(r, asDeltas(), n, upTo[int64](mostNumber))
	c.notes = next(r, asNotes(), n, whatever)
	c.counts = next(r, asRuns(), n, upTo[uint64](api.MaxEdits))
	c.edits = next(r, asEdits(), sum(c.counts), whatever)
	return c, r.err
}

func sum(l []uint64) int {
	n := 0
	for _, x := range l {
		n += int(x)
	}
	return n
}

func zeros(l []uint64) int {
	n := 0
	for _, x := range l {
		if x == 0 {
			n++
		}
	}
	return n
}

// inList fits a parent's place that is not ahead of the list; each update has so many parents.
func inList(parents []uint64) func(i int, x uint64) bool {
	var ahead []uint64 // of each parent: how many updates stand ahead of the one whose it is
	for i, n := range parents {
		for range n {
			ahead = append(ahead, uint64(i))
		}
	}
	return func(i int, x uint64) bool { return x <= ahead[i] }
}

// updates puts n updates together again, and takes them off the columns; parentsAt is the place of the column that tells their parents.
func (c *columns) updates(n int, parentsAt int) ([]api.Update, error) {
	l, ids := make([]api.Update, n), make([]api.Hash, n)
	k := kin{}
	for i := range l {
		parents, asSaved := c.takeParents(i, ids, k)
		if !asSaved {
			return nil, &fault{api.ErrColumn, parentsAt}
		}
		l[i] = api.Update{
			Parents: parents,
			Author:  int(c.authors[i]),
			Seq:     int(c.seqs[i]),
			Time:    c.times[i],
			Note:    c.notes[i],
			Edits:   front(&c.edits, c.counts[i]),
		}
		id, why := update.Id(l[i])
		if why != api.OK {
			return nil, &fault{why: api.ErrColumn}
		}
		ids[i], k[id] = id, i
	}
	return l, nil
}

// takeParents is the parents of the update at a place, behind those with these ids; whether each is told as Save tells it.
func (c *columns) takeParents(place int, ids []api.Hash, k kin) ([]api.Hash, bool) {
	var l []api.Hash
	for _, x := range front(&c.places, c.parents[place]) {
		var h api.Hash
		if x == 0 {
			h = front(&c.hashes, 1)[0]
		} else {
			h = ids[place-int(x)]
		}
		if k.ahead(h, place) != x {
			return nil, false
		}
		l = append(l, h)
	}
	return l, true
}
