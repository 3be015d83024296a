package journal

import (
	"math/rand"
	"slices"
	"testing"

	"estuary/api"
	"estuary/dag"
	"estuary/digest"
	"estuary/update"
)

func put(key string, n int) api.Edit {
	return api.Edit{Act: api.Put, Key: key, Value: api.Value{Kind: api.Int, N: int64(n)}}
}

func up(l ...api.Hash) []api.Hash {
	l = slices.Clone(l)
	slices.SortFunc(l, digest.Compare)
	return slices.Compact(l)
}

func encoded(t *testing.T, u api.Update) []byte {
	t.Helper()
	b, why := update.Encode(u)
	if why != api.OK {
		t.Fatalf("Encode: %d", why)
	}
	return b
}

// world is sound updates, with their bytes.
type world struct {
	g    *dag.Graph
	ids  []api.Hash
	rows map[api.Hash][]byte
}

func newWorld() *world { return &world{g: dag.New(), rows: map[api.Hash][]byte{}} }

// add makes an update behind others; time tells alike ones apart.
func (w *world) add(t *testing.T, author int, time int, parents ...api.Hash) api.Hash {
	t.Helper()
	parents = up(parents...)
	u := api.Update{Parents: parents, Author: author, Seq: w.g.Next(author, parents), Time: int64(time), Edits: []api.Edit{put("k", time)}}
	h, why := w.g.Add(u)
	if why != api.OK {
		t.Fatalf("Add: %d", why)
	}
	w.ids = append(w.ids, h)
	w.rows[h] = encoded(t, u)
	return h
}

// row is a world of updates one behind the other.
func row(t *testing.T, n int) *world {
	t.Helper()
	w := newWorld()
	for i := range n {
		w.add(t, 1, i, w.ids[max(0, i-1):]...)
	}
	return w
}

// anyWorld has so many updates; each has up to two parents among the last few.
func anyWorld(t *testing.T, r *rand.Rand, size int) *world {
	t.Helper()
	w := newWorld()
	for i := range size {
		var l []api.Hash
		for range r.Intn(3) {
			if len(w.ids) > 0 {
				l = append(l, w.ids[max(0, len(w.ids)-1-r.Intn(4))])
			}
		}
		w.add(t, 1+r.Intn(3), i, l...)
	}
	return w
}

// bytes are those of some updates, by their numbers.
func (w *world) bytes(l ...int) [][]byte {
	var rows [][]byte
	for _, n := range l {
		rows = append(rows, w.rows[w.ids[n]])
	}
	return rows
}

// fileOfRows is a store's file with records of these.
func fileOfRows(l ...[]byte) []byte {
	b := plainHead()
	for _, row := range l {
		b = append(b, framed(2, row)...)
	}
	return b
}
