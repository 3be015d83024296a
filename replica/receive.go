package replica

import (
	"cmp"
	"slices"

	"estuary/api"
	"estuary/commit"
	"estuary/digest"
	"estuary/update"
)

// Receive takes an update's bytes.
func (r *Replica) Receive(b []byte) api.Receipt {
	if r == nil {
		return api.Receipt{Why: api.ErrNil}
	}
	u, why, _ := update.Decode(b)
	if why != api.OK {
		return api.Receipt{Why: why}
	}
	return r.came(u, digest.Sum(b))
}

// Commit makes an update of edits, behind all that is there.
func (r *Replica) Commit(author int, time int64, note string, l []api.Edit) api.Receipt {
	if r == nil {
		return api.Receipt{Why: api.ErrNil}
	}
	u := commit.Over(r.graph, author)
	u.Time, u.Note, u.Edits = time, note, l
	id, why := update.Id(u)
	if why != api.OK {
		return api.Receipt{Why: why}
	}
	return r.came(u, id)
}

// came tells what becomes of a right update.
func (r *Replica) came(u api.Update, id api.Hash) api.Receipt {
	if r.graph.Has(id) || r.pool.Has(id) {
		return api.Receipt{Why: api.ErrKnown, Id: id}
	}
	if lacks := r.graph.Lacks(u.Parents); len(lacks) > 0 {
		return api.Receipt{Why: r.wait(u, lacks), Id: id}
	}
	in := intake{of: r, out: make(chan api.Update, r.pool.Len())}
	in.Id = id
	in.Why = in.look(u)
	in.lookOn()
	slices.SortFunc(in.Taken, r.compare)
	return in.Receipt
}

// wait keeps an update that lacks some of its parents, if there is room.
func (r *Replica) wait(u api.Update, lacks []api.Hash) api.Errno {
	if why := r.pool.Put(u, lacks); why != api.OK {
		return why
	}
	return api.ErrParent
}

// compare is the order of accepted updates.
func (r *Replica) compare(a, b api.Hash) int {
	return cmp.Compare(r.graph.Place(a), r.graph.Place(b))
}

// intake is what becomes of an update that came, and of those that come out of the pool by it.
type intake struct {
	api.Receipt
	of  *Replica
	out chan api.Update // has room for all that wait: nothing comes into the pool meanwhile
}

// look takes an update in that is sound, and tells what is wrong with any other.
func (in *intake) look(u api.Update) api.Errno {
	id, why := in.of.graph.Add(u)
	switch why {
	case api.OK:
		in.take(id)
	case api.ErrTurn:
		in.drop(u)
	}
	return why
}

// take goes on with an update that is in the graph now.
func (in *intake) take(id api.Hash) {
	steps, _ := in.of.eval.Put(in.of.graph, id)
	in.Steps += steps
	in.Taken = append(in.Taken, id)
	for _, u := range in.of.pool.Come(id) {
		in.out <- u
	}
}

// drop throws out what waits for an update that is never accepted.
func (in *intake) drop(u api.Update) {
	id, _ := update.Id(u)
	in.of.pool.Drop(id)
}

// lookOn looks at those that came out of the pool, as they came, till none is left.
func (in *intake) lookOn() {
	for {
		select {
		case u := <-in.out:
			if in.look(u) == api.ErrFull {
				in.Why = api.ErrFull
			}
		default:
			return
		}
	}
}
