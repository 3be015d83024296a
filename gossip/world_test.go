package gossip

import (
	"math/rand"
	"slices"
	"testing"

	"estuary/api"
	"estuary/bloom"
	"estuary/dag"
	"estuary/digest"
	"estuary/parley"
	"estuary/update"
)

func pick[T any](r *rand.Rand, l ...T) T { return l[r.Intn(len(l))] }

func put(key string, n int) api.Edit {
	return api.Edit{Act: api.Put, Key: key, Value: api.Value{Kind: api.Int, N: int64(n)}}
}

func options(orphans int) api.Options { return api.Options{Every: 2, Keep: 2, Orphans: orphans} }

func newNet(t *testing.T, n, orphans int) *Net {
	t.Helper()
	net, why := New(n, options(orphans))
	if why != api.OK {
		t.Fatalf("New: %d", why)
	}
	return net
}

func write(a, author int, l ...api.Edit) api.NetStep {
	return api.NetStep{Kind: api.NetWrite, A: a, Author: author, Edits: l}
}

func step(k api.NetKind, a, b int) api.NetStep { return api.NetStep{Kind: k, A: a, B: b} }

func lie(a, b int, said []byte) api.NetStep {
	return api.NetStep{Kind: api.NetLie, A: a, B: b, Bytes: said}
}

func settle() api.NetStep { return api.NetStep{Kind: api.NetSettle} }

// does asks for an answer.
func does(t *testing.T, n *Net, want string, s api.NetStep) {
	t.Helper()
	if got := n.Do(s); got != want {
		t.Errorf("the step %d of %d and %d: %s, not %s", s.Kind, s.A, s.B, got, want)
	}
}

func shows(t *testing.T, n *Net, i int, want string) {
	t.Helper()
	if got := n.Render(i); got != want {
		t.Errorf("%d shows %s, not %s", i, got, want)
	}
}

func rising(l []api.Hash) []api.Hash {
	l = slices.Clone(l)
	slices.SortFunc(l, digest.Compare)
	return slices.Compact(l)
}

func encoded(t *testing.T, u api.Update) []byte {
	t.Helper()
	b, why := update.Encode(u)
	if why != api.OK {
		t.Fatalf("Encode: %d", why)
	}
	return b
}

func message(t *testing.T, m api.Message) []byte {
	t.Helper()
	b, why := parley.Encode(m)
	if why != api.OK {
		t.Fatalf("Encode: %d", why)
	}
	return b
}

// liar is somebody with updates of their own, sound ones and others, that nobody has written down.
type liar struct {
	r    *rand.Rand
	g    *dag.Graph
	ids  []api.Hash
	rows [][]byte
}

// newLiar has so many sound updates, by authors that fork, and others that are not sound.
func newLiar(t *testing.T, r *rand.Rand, size int) *liar {
	t.Helper()
	x := &liar{r: r, g: dag.New()}
	for i := range size {
		var parents []api.Hash
		for range r.Intn(3) {
			if len(x.ids) > 0 {
				parents = append(parents, pick(r, x.ids...))
			}
		}
		parents = rising(parents)
		author := 1 + r.Intn(3)
		u := api.Update{Parents: parents, Author: author, Seq: x.g.Next(author, parents), Time: int64(i), Edits: []api.Edit{put(pick(r, "a", "b"), i)}}
		id, why := x.g.Add(u)
		if why != api.OK {
			t.Fatalf("Add: %d", why)
		}
		x.ids = append(x.ids, id)
		x.rows = append(x.rows, encoded(t, u))
		u.Seq += 1 + r.Intn(2)
		x.rows = append(x.rows, encoded(t, u), []byte("EST1"), nil)
		u.Parents = []api.Hash{{byte(i), 7}}
		x.rows = append(x.rows, encoded(t, u))
	}
	return x
}

// says is bytes that can come as anybody's: messages with updates of the liar's, spoilt ones, and such as are none.
func (x *liar) says(t *testing.T) []byte {
	t.Helper()
	some := func() []api.Hash {
		var l []api.Hash
		for range x.r.Intn(3) {
			l = append(l, pick(x.r, append(x.ids, api.Hash{9, byte(x.r.Intn(9))})...))
		}
		return rising(l)
	}
	m := api.Message{Heads: some(), Need: some(), Since: some()}
	if x.r.Intn(2) == 0 {
		m.Filter = bloom.Of(some()).Encode()
	}
	for range x.r.Intn(5) {
		m.Updates = append(m.Updates, pick(x.r, x.rows...))
	}
	b := message(t, m)
	switch x.r.Intn(8) {
	case 0:
		b[x.r.Intn(len(b))] ^= byte(1 << x.r.Intn(8))
	case 1:
		b = b[:x.r.Intn(len(b))]
	case 2:
		b = append(b, 0)
	}
	return b
}

// anyStep is a step of a net of n replicas; some are refused.
func (x *liar) anyStep(t *testing.T, n int) api.NetStep {
	t.Helper()
	r := x.r
	s := api.NetStep{Kind: api.NetKind(1 + r.Intn(9)), A: r.Intn(n), B: r.Intn(n), Author: 1 + r.Intn(4)}
	switch {
	case r.Intn(40) == 0:
		s.Kind = api.NetKind(pick(r, 0, 10, 255))
	case r.Intn(40) == 0:
		s.A = pick(r, -1, n)
	case r.Intn(40) == 0:
		s.B = pick(r, -1, n)
	case r.Intn(3) > 0:
		s.Kind = pick(r, api.NetWrite, api.NetMeet, api.NetMeet, api.NetMeet, api.NetCarry, api.NetTwice, api.NetLast)
	}
	if s.Kind == api.NetSettle && r.Intn(6) > 0 {
		s.Kind = api.NetMeet
	}
	s.Edits = []api.Edit{put(pick(r, "a", "b", "c"), r.Intn(9))}
	if r.Intn(12) == 0 {
		s.Edits[0].Act = 99
	}
	if s.Kind == api.NetLie {
		s.Bytes = x.says(t)
	}
	return s
}
