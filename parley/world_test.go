package parley

import (
	"math/rand"
	"slices"
	"sync"
	"testing"

	"estuary/api"
	"estuary/dag"
	"estuary/digest"
	"estuary/replica"
	"estuary/update"
)

func pick[T any](r *rand.Rand, l ...T) T { return l[r.Intn(len(l))] }

func up(l ...api.Hash) []api.Hash {
	l = slices.Clone(l)
	slices.SortFunc(l, digest.Compare)
	return slices.Compact(l)
}

func anyHash(r *rand.Rand) api.Hash {
	var h api.Hash
	r.Read(h[:])
	return h
}

func anyHashes(r *rand.Rand, n int) []api.Hash {
	var l []api.Hash
	for range n {
		l = append(l, anyHash(r))
	}
	return up(l...)
}

func put(key string, n int) api.Edit {
	return api.Edit{Act: api.Put, Key: key, Value: api.Value{Kind: api.Int, N: int64(n)}}
}

func fresh(t *testing.T, orphans int) *replica.Replica {
	t.Helper()
	r, why := replica.New(api.Options{Every: 16, Keep: 4, Orphans: orphans})
	if why != api.OK {
		t.Fatalf("New: %d", why)
	}
	return r
}

// world is sound updates by chance, with their bytes.
type world struct {
	g    *dag.Graph
	ids  []api.Hash
	rows map[api.Hash][]byte
}

func newWorld() *world { return &world{g: dag.New(), rows: map[api.Hash][]byte{}} }

// add makes an update behind others; time tells alike ones apart.
func (w *world) add(t *testing.T, author int, time int, parents ...api.Hash) api.Hash {
	t.Helper()
	u := w.next(author, time, parents...)
	h, why := w.g.Add(u)
	if why != api.OK {
		t.Fatalf("Add: %d", why)
	}
	w.ids = append(w.ids, h)
	w.rows[h], _ = update.Encode(u)
	return h
}

// next is the update that add would make.
func (w *world) next(author int, time int, parents ...api.Hash) api.Update {
	parents = up(parents...)
	return api.Update{Parents: parents, Author: author, Seq: w.g.Next(author, parents), Time: int64(time), Edits: []api.Edit{put("k", time)}}
}

// anyWorld has so many updates; each has up to so many parents among the last few.
func anyWorld(t *testing.T, r *rand.Rand, size, parents, few int) *world {
	t.Helper()
	w := newWorld()
	for i := range size {
		var l []api.Hash
		for range r.Intn(parents + 1) {
			if len(w.ids) > 0 {
				l = append(l, w.ids[max(0, len(w.ids)-1-r.Intn(few))])
			}
		}
		w.add(t, 1+r.Intn(4), i, l...)
	}
	return w
}

// give lets a replica receive some updates and their ancestors.
func (w *world) give(t *testing.T, r *replica.Replica, l ...api.Hash) {
	t.Helper()
	for _, h := range w.g.Past(l) {
		if x := r.Receive(w.rows[h]); x.Why != api.OK && x.Why != api.ErrKnown {
			t.Fatalf("Receive: %d", x.Why)
		}
	}
}

// some are so many of its updates, any.
func (w *world) some(r *rand.Rand, n int) []api.Hash {
	var l []api.Hash
	for range n {
		l = append(l, pick(r, w.ids...))
	}
	return l
}

// turn is what goes from one side of a talk to the other: all that was told so far, and how often nothing was told one behind the other.
type turn struct {
	told   []api.Message
	silent int
}

// side is one side of a talk, till both sides tell nothing one behind the other.
func side(p *Peer, in <-chan turn, out chan<- turn, end *turn) {
	defer close(out)
	for x := range in {
		if x.silent == 0 && len(x.told) > 0 {
			p.Hear(x.told[len(x.told)-1])
		}
		m, is := p.Tell()
		x.silent++
		if is {
			x = turn{told: append(x.told, m)}
		}
		*end = x
		if x.silent == 2 || len(x.told) > 10000 {
			return
		}
		out <- x
	}
}

// talk lets two peers talk, the first one first: what was told.
func talk(t *testing.T, p, q *Peer) []api.Message {
	t.Helper()
	there, back := make(chan turn, 1), make(chan turn)
	there <- turn{}
	var ends [2]turn
	var both sync.WaitGroup
	both.Go(func() { side(p, there, back, &ends[0]) })
	both.Go(func() { side(q, back, there, &ends[1]) })
	both.Wait()
	for _, x := range ends {
		if x.silent == 2 {
			return x.told
		}
	}
	t.Fatal("the talk does not end")
	return nil
}

// even asks that both replicas have the same, and both peers know it.
func even(t *testing.T, p, q *Peer) {
	t.Helper()
	if !p.Even() || !q.Even() {
		t.Errorf("even: %v, %v", p.Even(), q.Even())
	}
	if a, b := p.replica, q.replica; !slices.Equal(a.Accepted(), b.Accepted()) || a.Render() != b.Render() {
		t.Errorf("%d and %d accepted, %s and %s", len(a.Accepted()), len(b.Accepted()), a.Render(), b.Render())
	}
}

// lacking is how many of an accepted list are not in another.
func lacking(a, b *replica.Replica) int {
	g := b.Graph()
	return len(g.Lacks(a.Accepted()))
}

// bound is how many messages a talk of two replicas may have.
func bound(a, b *replica.Replica) int { return 4 + 2*max(lacking(a, b), lacking(b, a)) }
