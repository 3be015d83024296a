package parley

import (
	"math/rand"
	"slices"
	"testing"

	"estuary/api"
	"estuary/bloom"
	"estuary/replica"
	"estuary/update"
)

// P22.6, P22.10
func TestTalksEnd(t *testing.T) {
	for seed := range int64(400) {
		r := rand.New(rand.NewSource(seed))
		w := anyWorld(t, r, 1+r.Intn(pick(r, 6, 30, 150)), pick(r, 1, 2, 4), pick(r, 1, 3, 20, 200))
		a, b := fresh(t, api.MaxOrphans), fresh(t, api.MaxOrphans)
		w.give(t, a, w.some(r, r.Intn(pick(r, 2, 5, 40)))...)
		w.give(t, b, w.some(r, r.Intn(pick(r, 2, 5, 40)))...)
		ends(t, a, b)
	}
}

// ends asks that a talk of two new peers ends as it must: how many messages it had.
func ends(t *testing.T, a, b *replica.Replica) int {
	t.Helper()
	most := bound(a, b)
	union := up(append(a.Accepted(), b.Accepted()...)...)
	p, q := New(a), New(b)
	l := talk(t, p, q)
	if len(l) > most || len(l) < 2 {
		t.Errorf("%d messages, not at most %d", len(l), most)
	}
	even(t, p, q)
	if !slices.Equal(up(a.Accepted()...), union) {
		t.Errorf("%d accepted, not %d", len(a.Accepted()), len(union))
	}
	for _, m := range l {
		may(t, m, a, b)
	}
	return len(l)
}

// P22.6: more than one message has room for: one behind the other, and side by side
func TestLongTalks(t *testing.T) {
	for name, x := range map[string]struct{ ours, theirs, parents int }{
		"a row":               {300, 0, 1},
		"a row, of theirs":    {0, 300, 1},
		"rows on both sides":  {150, 300, 1},
		"heads":               {300, 0, 0},
		"heads, of theirs":    {0, 300, 0},
		"heads on both sides": {200, 300, 0},
	} {
		w := newWorld()
		chain := func(author, size int) []api.Hash {
			var l []api.Hash
			for i := range size {
				l = append(l, w.add(t, author+i*(1-x.parents), i, l[max(0, len(l)-x.parents):]...))
			}
			return l
		}
		a, b := fresh(t, api.MaxOrphans), fresh(t, api.MaxOrphans)
		w.give(t, a, chain(1, x.ours)...)
		w.give(t, b, chain(1000, x.theirs)...)
		if n := ends(t, a, b); n < max(x.ours, x.theirs)/api.MaxSend*2 {
			t.Errorf("%s: %d messages", name, n)
		}
	}
}

// falsely is the next update of an author that a filter says it may have, though it has not.
func (w *world) falsely(t *testing.T, f *bloom.Filter, parents ...api.Hash) api.Hash {
	t.Helper()
	for time := range 1 << 16 {
		if h, _ := update.Id(w.next(1, time, parents...)); f.Has(h) {
			return w.add(t, 1, time, parents...)
		}
	}
	t.Fatal("no update that the filter may have")
	return api.Hash{}
}

// P22.6: what a filter hides is asked for by name
func TestHiddenByFilters(t *testing.T) {
	for n := range 12 {
		w := newWorld()
		a, b := fresh(t, api.MaxOrphans), fresh(t, api.MaxOrphans)
		var l []api.Hash
		for i := range 6 {
			l = append(l, w.add(t, 2, i, l...))
		}
		w.give(t, b, l...)
		f := bloom.Of(l)
		var top []api.Hash
		for range n {
			top = []api.Hash{w.falsely(t, f, top...)}
		}
		w.give(t, a, top...)
		if got := ends(t, a, b); n > 2 && got < 8 {
			t.Errorf("%d hidden: %d messages only", n, got)
		}
	}
}

// P22.6: a talk that ended goes on when one side writes, by the same peers
func TestTalksGoOn(t *testing.T) {
	a, b := fresh(t, 8), fresh(t, 8)
	p, q := New(a), New(b)
	for i := range 20 {
		a.Commit(1, 0, "", []api.Edit{put("a", i)})
		if i%3 == 0 {
			b.Commit(2, 0, "", []api.Edit{put("b", i)})
		}
		if p.Even() {
			t.Error("even, though it has written")
		}
		talk(t, q, p)
		even(t, p, q)
		if n := len(a.Accepted()); n != i+1+i/3+1 {
			t.Fatalf("%d accepted", n)
		}
	}
}

// P22.8: messages that are lost, doubled, late, while both write
func TestLossyTalks(t *testing.T) {
	for seed := range int64(300) {
		r := rand.New(rand.NewSource(seed))
		sides := []*replica.Replica{fresh(t, api.MaxOrphans), fresh(t, api.MaxOrphans)}
		peers := []*Peer{New(sides[0]), New(sides[1])}
		w := anyWorld(t, r, 1+r.Intn(40), 2, 6)
		for _, x := range sides {
			w.give(t, x, w.some(r, r.Intn(5))...)
		}
		under := make([][]api.Message, 2) // what is under way to each
		all := up(append(sides[0].Accepted(), sides[1].Accepted()...)...)
		for range r.Intn(60) {
			i := r.Intn(2)
			switch n := r.Intn(8); {
			case n == 0:
				all = append(all, sides[i].Commit(7+i, 0, "", nil).Id)
			case n < 4:
				if m, is := peers[i].Tell(); is {
					may(t, m, sides[i])
					under[1-i] = append(under[1-i], m)
				}
			case len(under[i]) > 0:
				at := r.Intn(len(under[i]))
				if n < 7 {
					hears(t, peers[i], under[i][at])
				}
				if n != 6 {
					under[i] = slices.Delete(under[i], at, at+1)
				}
			}
		}
		first := r.Intn(2)
		talk(t, peers[first], peers[1-first])
		even(t, peers[0], peers[1])
		if !slices.Equal(up(sides[0].Accepted()...), up(all...)) {
			t.Fatalf("seed %d: %d accepted, not %d", seed, len(sides[0].Accepted()), len(all))
		}
	}
}

// P22.7: whatever is heard, sound updates alone are accepted
func TestForgedTalks(t *testing.T) {
	for seed := range int64(60) {
		r := rand.New(rand.NewSource(seed))
		w := anyWorld(t, r, 30, 2, 6)
		here := fresh(t, pick(r, 0, 4, 64))
		p := New(here)
		var rows [][]byte
		for _, h := range w.ids {
			u, _ := w.g.Update(h)
			rows = append(rows, w.rows[h])
			u.Seq += r.Intn(2)
			rows = append(rows, encoded(t, u), []byte("EST1"), nil)
		}
		r.Shuffle(len(rows), func(i, j int) { rows[i], rows[j] = rows[j], rows[i] })
		for range 30 {
			m := w.anyMessage(r, here)
			n := r.Intn(len(rows))
			m.Updates = append(m.Updates, rows[n:min(n+20, len(rows))]...)
			hears(t, p, m)
			p.Tell()
		}
		again := fresh(t, 0)
		for _, b := range here.Export() {
			if x := again.Receive(b); x.Why != api.OK {
				t.Fatalf("seed %d: what was accepted is not sound: %d", seed, x.Why)
			}
		}
		if again.Render() != here.Render() {
			t.Fatalf("seed %d: %s, not %s", seed, here.Render(), again.Render())
		}
	}
}
