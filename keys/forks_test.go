package keys

import (
	"math/rand"
	"reflect"
	"slices"
	"strconv"
	"testing"

	"estuary/api"
	"estuary/dag"
)

func add(t *testing.T, g *dag.Graph, author int, note string, parents ...api.Hash) api.Hash {
	t.Helper()
	parents = up(parents...)
	h, why := g.Add(api.Update{Author: author, Seq: g.Next(author, parents), Parents: parents, Note: note})
	if why != api.OK {
		t.Fatalf("Add: %d", why)
	}
	return h
}

// P25.3: by author, then by Seq, with the ids rising.
func TestForks(t *testing.T) {
	g := dag.New()
	if len(Forks(g)) > 0 || len(Liars(g)) > 0 {
		t.Error("an empty graph")
	}
	a := add(t, g, 7, "a")
	b := add(t, g, 3, "b", a)
	c := add(t, g, 7, "c", a)
	add(t, g, 9, "d")
	if len(Forks(g)) > 0 || len(Liars(g)) > 0 {
		t.Error("nobody forks yet")
	}
	c2, c3 := add(t, g, 7, "c2", b), add(t, g, 7, "c3", a)
	want := []api.Fork{{Author: 7, Seq: 2, Ids: up(c, c2, c3)}}
	if l := Forks(g); !reflect.DeepEqual(l, want) {
		t.Errorf("%v, not %v", l, want)
	}
	a2 := add(t, g, 7, "a2")
	b2 := add(t, g, 3, "b2")
	want = []api.Fork{{Author: 3, Seq: 1, Ids: up(b, b2)}, {Author: 7, Seq: 1, Ids: up(a, a2)}, want[0]}
	if l := Forks(g); !reflect.DeepEqual(l, want) {
		t.Errorf("%v, not %v", l, want)
	}
	if l := Liars(g); !slices.Equal(l, []int{3, 7}) {
		t.Errorf("liars: %v", l)
	}
}

// P25.5
func TestForksOfNil(t *testing.T) {
	if len(Forks(nil)) > 0 || len(Liars(nil)) > 0 {
		t.Error("a nil graph")
	}
}

// anyGraph is a graph by chance; of authors who are honest each update has the author's last one among its parents.
func anyGraph(t *testing.T, r *rand.Rand, size, authors, honest int) *dag.Graph {
	t.Helper()
	g := dag.New()
	last := map[int]api.Hash{}
	for i := range size {
		var parents []api.Hash
		for range r.Intn(4) {
			if all := g.Order(); len(all) > 0 {
				parents = append(parents, all[r.Intn(len(all))])
			}
		}
		author := 1 + r.Intn(authors)
		if h, wrote := last[author]; wrote && author <= honest {
			parents = append(parents, h)
		}
		last[author] = add(t, g, author, strconv.Itoa(i), parents...)
	}
	return g
}

// forked is an author's forks by the chapter's words: each two updates of it are held against each other.
func forked(g *dag.Graph, author int) []api.Fork {
	var l []api.Fork
	for seq := 1; seq <= g.Len(); seq++ {
		var ids []api.Hash
		for _, h := range g.Order() {
			for _, o := range g.Order() {
				u, _ := g.Update(h)
				v, _ := g.Update(o)
				if h != o && u.Author == author && v.Author == author && u.Seq == seq && v.Seq == seq {
					ids = append(ids, h)
				}
			}
		}
		if len(ids) > 0 {
			l = append(l, api.Fork{Author: author, Seq: seq, Ids: up(ids...)})
		}
	}
	return l
}

// inOneRow tells whether of each two of an author's updates one is an ancestor of the other.
func inOneRow(g *dag.Graph, author int) bool {
	for _, h := range g.Order() {
		for _, o := range g.Order() {
			u, _ := g.Update(h)
			v, _ := g.Update(o)
			if h != o && u.Author == author && v.Author == author && !g.Before(h, o) && !g.Before(o, h) {
				return false
			}
		}
	}
	return true
}

// P25.3, P25.8: graphs by chance tell what the chapter's words say; the honest do not fork, and who does not fork has all in one row.
func TestForksByChance(t *testing.T) {
	forks := 0
	for seed := range int64(60) {
		r := rand.New(rand.NewSource(seed))
		authors := 1 + r.Intn(5)
		honest := r.Intn(authors + 1)
		g := anyGraph(t, r, 1+r.Intn(24), authors, honest)
		var want []api.Fork
		var liars []int
		for author := 1; author <= authors; author++ {
			l := forked(g, author)
			want = append(want, l...)
			if len(l) > 0 {
				liars = append(liars, author)
			}
			if author <= honest && len(l) > 0 || inOneRow(g, author) != (len(l) == 0) {
				t.Fatalf("seed %d: author %d: %v", seed, author, l)
			}
		}
		forks += len(want)
		if got := Forks(g); len(got) != len(want) || len(got) > 0 && !reflect.DeepEqual(got, want) {
			t.Fatalf("seed %d: %v, not %v", seed, got, want)
		}
		if got := Liars(g); !slices.Equal(got, liars) {
			t.Fatalf("seed %d: %v, not %v", seed, got, liars)
		}
	}
	if forks < 50 {
		t.Errorf("only %d forks", forks)
	}
}

// P3: no two lists share memory, nor the room behind them.
func TestForksAreApart(t *testing.T) {
	g := anyGraph(t, rand.New(rand.NewSource(4)), 60, 3, 0)
	want, got := Forks(g), Forks(g)
	for i := range got {
		ids := got[i].Ids[:cap(got[i].Ids)]
		for j := range ids {
			ids[j] = api.Hash{}
		}
		for j, f := range got[i+1:] {
			if !slices.Equal(f.Ids, want[i+1+j].Ids) {
				t.Fatal("two lists share memory")
			}
		}
	}
	if !reflect.DeepEqual(Forks(g), want) {
		t.Error("an answer is the graph's own")
	}
}

// P25.3, P6: a full graph, in which one author forks as often as can be.
func TestForksOfAFullGraph(t *testing.T) {
	g := dag.New()
	for i := range api.MaxUpdates {
		if _, why := g.Add(api.Update{Author: 5, Seq: 1, Time: int64(i)}); why != api.OK {
			t.Fatal(why)
		}
	}
	if l := Forks(g); len(l) != 1 || !slices.Equal(l[0].Ids, g.Order()) {
		t.Errorf("%d forks", len(l))
	}
}
