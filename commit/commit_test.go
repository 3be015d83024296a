package commit

import (
	"slices"
	"testing"

	"estuary/api"
	"estuary/dag"
	"estuary/digest"
)

func add(t *testing.T, g *dag.Graph, u api.Update) api.Hash {
	t.Helper()
	h, why := g.Add(u)
	if why != api.OK {
		t.Fatalf("Add(%v): %d", u, why)
	}
	return h
}

// P16.3, P19.5: over a nil graph, and a new one
func TestOverNothing(t *testing.T) {
	for _, g := range []*dag.Graph{nil, dag.New()} {
		if u := Over(g, 5); len(u.Parents) > 0 || u.Author != 5 || u.Seq != 1 || u.Time != 0 || u.Note != "" || len(u.Edits) > 0 {
			t.Errorf("%v", u)
		}
	}
}

// P16.3, P19.5: MaxParents heads are all parents, rising; of more the author's own way comes first, then the later in the order
func TestOverHeads(t *testing.T) {
	g := dag.New()
	own := add(t, g, api.Update{Author: 1, Seq: 1})
	for author := 2; author <= api.MaxParents; author++ {
		add(t, g, api.Update{Author: author, Seq: 1})
	}
	if u := Over(g, 1); !slices.Equal(u.Parents, g.Heads()) || len(u.Parents) != api.MaxParents || u.Seq != 2 {
		t.Errorf("%d parents, Seq %d", len(u.Parents), u.Seq)
	}
	for author := 20; author < 30; author++ {
		add(t, g, api.Update{Author: author, Seq: 1})
	}
	order := g.Order() // all are heads
	slices.Reverse(order)
	want := append([]api.Hash{own}, slices.DeleteFunc(slices.Clone(order), func(h api.Hash) bool { return h == own })...)[:api.MaxParents]
	slices.SortFunc(want, digest.Compare)
	if u := Over(g, 1); !slices.Equal(u.Parents, want) || u.Seq != 2 {
		t.Errorf("of author 1: %x, Seq %d", u.Parents, u.Seq)
	}
	last := order[:api.MaxParents]
	slices.SortFunc(last, digest.Compare)
	if u := Over(g, 99); !slices.Equal(u.Parents, last) || u.Seq != 1 {
		t.Errorf("of an author who wrote nothing: %x, Seq %d", u.Parents, u.Seq)
	}
}

// P16.3, P19.5: of several newest updates of an author the first in the order counts, and what is behind it knows it
func TestOverForks(t *testing.T) {
	g := dag.New()
	first := add(t, g, api.Update{Author: 1, Seq: 1})
	var forks []api.Hash
	for n := range 3 {
		forks = append(forks, add(t, g, api.Update{Author: 1, Seq: 2, Time: int64(n), Parents: []api.Hash{first}}))
	}
	slices.SortFunc(forks, digest.Compare)
	knows := add(t, g, api.Update{Author: 2, Seq: 1, Parents: forks[:1]}) // early in the order, but for the three
	for author := 10; author < 20; author++ {
		h := add(t, g, api.Update{Author: author, Seq: 1})
		h = add(t, g, api.Update{Author: author, Seq: 2, Parents: []api.Hash{h}})
		h = add(t, g, api.Update{Author: author, Seq: 3, Parents: []api.Hash{h}})
		add(t, g, api.Update{Author: author, Seq: 4, Parents: []api.Hash{h}})
	}
	u := Over(g, 1)
	if !slices.Contains(u.Parents, knows) || slices.Contains(u.Parents, forks[1]) || slices.Contains(u.Parents, forks[2]) || u.Seq != 3 {
		t.Errorf("%x, Seq %d", u.Parents, u.Seq)
	}
	if u := Over(g, 2); !slices.Contains(u.Parents, knows) || u.Seq != 2 {
		t.Errorf("%x, Seq %d", u.Parents, u.Seq)
	}
	if u := Over(g, 3); slices.Contains(u.Parents, knows) || u.Seq != 1 {
		t.Errorf("%x, Seq %d", u.Parents, u.Seq)
	}
}

// P3: what is answered is memory of its own
func TestOverIsNewMemory(t *testing.T) {
	g := dag.New()
	for author := 1; author < 12; author++ {
		add(t, g, api.Update{Author: author, Seq: 1})
	}
	a, b := Over(g, 1), Over(g, 1)
	clear(a.Parents[:cap(a.Parents)])
	if slices.Equal(a.Parents, b.Parents) || !slices.Equal(b.Parents, Over(g, 1).Parents) {
		t.Error("memory is shared")
	}
}
