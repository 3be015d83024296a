package gossip

import (
	"fmt"
	"math/rand"
	"slices"
	"testing"

	"estuary/api"
	"estuary/dag"
	"estuary/eval"
	"estuary/render"
	"estuary/update"
)

// kept asks that all replicas still have what they had (P27.5): what they have now.
func kept(t *testing.T, n *Net, had [][]api.Hash) [][]api.Hash {
	t.Helper()
	var have [][]api.Hash
	for i := range n.nodes {
		have = append(have, n.Accepted(i))
		if i >= len(had) {
			continue
		}
		for _, h := range had[i] {
			if !slices.Contains(have[i], h) {
				t.Fatalf("%d has lost %x", i, h)
			}
		}
	}
	return have
}

// sound asks that a replica has sound updates with all their ancestors, and shows their document (P27.6).
func sound(t *testing.T, n *Net, i int) {
	t.Helper()
	g := dag.New()
	for _, b := range n.nodes[i].Export() {
		u, why, _ := update.Decode(b)
		if why != api.OK {
			t.Fatalf("%d has bytes that are no update's: %d", i, why)
		}
		if _, why := g.Add(u); why != api.OK {
			t.Fatalf("%d has accepted what is not sound: %d", i, why)
		}
	}
	if !slices.Equal(g.Order(), n.Accepted(i)) || !slices.Equal(g.Heads(), n.Frontier(i)) {
		t.Fatalf("%d has others than it tells", i)
	}
	if want := render.Text(render.Nodes(eval.Fold(g, g.Heads(), nil))); n.Render(i) != want {
		t.Fatalf("%d shows %s, not %s", i, n.Render(i), want)
	}
}

// settled asks that behind a settling all have what any of them had (P27.4).
func settled(t *testing.T, n *Net) {
	t.Helper()
	var all []api.Hash
	for i := range n.nodes {
		all = append(all, n.Accepted(i)...)
	}
	messages := 0
	if _, err := fmt.Sscanf(n.Do(settle()), "ok %d", &messages); err != nil {
		t.Fatal(err)
	}
	if size := len(n.nodes); messages < size*(size-1) {
		t.Errorf("%d messages, of %d replicas", messages, size)
	}
	for i := range n.nodes {
		for _, h := range all {
			if !slices.Contains(n.Accepted(i), h) {
				t.Fatalf("%d has not got %x", i, h)
			}
		}
		if n.Render(i) != n.Render(0) || !slices.Equal(n.Accepted(i), n.Accepted(0)) {
			t.Fatalf("%d shows %s, and 0 %s", i, n.Render(i), n.Render(0))
		}
	}
	if !n.Even() {
		t.Error("not even")
	}
}

// P27.4, P27.5, P27.6: whatever is lost, doubled, late, forged or crashes
func TestWhatFollows(t *testing.T) {
	apart := 0
	for seed := range int64(120) {
		r := rand.New(rand.NewSource(seed))
		size := 1 + r.Intn(pick(r, 3, api.MaxNodes))
		x := newLiar(t, r, 1+r.Intn(12))
		n := newNet(t, size, api.MaxOrphans) // more than a liar has updates: nothing is dropped
		var had [][]api.Hash
		for range 1 + r.Intn(80) {
			n.Do(x.anyStep(t, size))
			had = kept(t, n, had)
		}
		for i := range size {
			sound(t, n, i)
		}
		if !n.Even() {
			apart++
		}
		settled(t, n)
		kept(t, n, had)
		sound(t, n, 0)
	}
	if apart < 50 {
		t.Errorf("only %d nets were not even", apart)
	}
}

// P27.4: nearly a thousand updates, each replica with a part of them
func TestManySettle(t *testing.T) {
	for _, size := range []int{2, 5} {
		n := newNet(t, size, api.MaxOrphans)
		for i := range 990 {
			does(t, n, "ok", write(i%size, 1+i%7, put(fmt.Sprint("k", i%50), i)))
		}
		settled(t, n)
		if len(n.Accepted(0)) != 990 {
			t.Errorf("%d are accepted", len(n.Accepted(0)))
		}
	}
}

// P27.4: what one wrote reaches all, through whom it talks with alone
func TestThroughOthers(t *testing.T) {
	n := newNet(t, 4, 4)
	does(t, n, "ok", write(0, 1, put("a", 1)))
	for a := range 3 {
		for range 2 {
			n.Do(step(api.NetMeet, a, a+1))
			does(t, n, "ok", step(api.NetCarry, a, a+1))
			n.Do(step(api.NetMeet, a+1, a))
			does(t, n, "ok", step(api.NetCarry, a+1, a))
		}
	}
	shows(t, n, 3, `{"a":1}`)
	if !n.Even() {
		t.Error("not even")
	}
}

// P27.5: a full graph takes no more, and stays
func TestFullGraph(t *testing.T) {
	n := newNet(t, 1, 4)
	for i := range api.MaxUpdates {
		does(t, n, "ok", write(0, 1, put("a", i)))
	}
	does(t, n, "errno 3", write(0, 1, put("a", 0)))
	does(t, n, "ok", step(api.NetCrash, 0, 0))
	shows(t, n, 0, `{"a":4095}`)
	if len(n.Accepted(0)) != api.MaxUpdates {
		t.Errorf("%d are accepted", len(n.Accepted(0)))
	}
}
