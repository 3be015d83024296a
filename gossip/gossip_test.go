package gossip

import (
	"fmt"
	"math"
	"slices"
	"strings"
	"sync"
	"testing"

	"estuary/api"
	"estuary/bloom"
	"estuary/digest"
	"estuary/parley"
)

// P27.1
func TestNew(t *testing.T) {
	right := options(4)
	for _, n := range []int{math.MinInt, -1, 0, api.MaxNodes + 1, math.MaxInt} {
		if net, why := New(n, right); net != nil || why != api.ErrRange {
			t.Errorf("%d replicas: %v, %d", n, net, why)
		}
	}
	for _, o := range []api.Options{{}, {Every: api.MaxEvery + 1}, {Every: 1, Keep: -1}, {Every: 1, Keep: api.MaxKeep + 1}, {Every: 1, Orphans: -1}, {Every: 1, Orphans: api.MaxOrphans + 1}} {
		if net, why := New(2, o); net != nil || why != api.ErrRange {
			t.Errorf("%v: %v, %d", o, net, why)
		}
	}
	for _, n := range []int{1, 2, api.MaxNodes} {
		net, why := New(n, right)
		if why != api.OK {
			t.Fatalf("%d replicas: %d", n, why)
		}
		for i := range n {
			shows(t, net, i, "{}")
			if len(net.Frontier(i)) > 0 || len(net.Accepted(i)) > 0 {
				t.Errorf("%d is not fresh", i)
			}
			for j := range n {
				if net.Way(i, j) != 0 {
					t.Errorf("something is under way from %d to %d", i, j)
				}
			}
			does(t, net, "ok", step(api.NetCrash, i, 0))
			shows(t, net, i, "{}")
		}
		if !net.Even() {
			t.Error("not even")
		}
		does(t, net, "errno 270", write(n, 1))
		does(t, net, fmt.Sprint("ok ", n*(n-1)), settle())
	}
}

// The chapter's examples: P27.2, P27.3
func TestExamples(t *testing.T) {
	n := newNet(t, 2, 4)
	does(t, n, "ok", write(0, 1, put("a", 1)))
	does(t, n, "ok", step(api.NetMeet, 0, 1))
	if n.Way(0, 1) != 1 || n.Way(1, 0) != 0 || n.Even() {
		t.Errorf("Way: %d, %d; Even: %v", n.Way(0, 1), n.Way(1, 0), n.Even())
	}
	does(t, n, "ok", step(api.NetCarry, 0, 1))
	does(t, n, "none", step(api.NetCarry, 0, 1))
	does(t, n, "ok 4", settle())
	shows(t, n, 1, `{"a":1}`)
	does(t, n, "errno 20", lie(0, 1, nil))
	does(t, n, "errno 270", write(2, 1))
	does(t, n, "errno 270", step(api.NetMeet, 0, 0))
	does(t, n, "ok", step(api.NetCrash, 0, 0))
	shows(t, n, 0, `{"a":1}`)
	if !n.Even() {
		t.Error("not even")
	}
}

// P27.2: which error is told first, and which fields are looked at
func TestRefused(t *testing.T) {
	n := newNet(t, 3, 4)
	for _, k := range []api.NetKind{0, 10, 255} {
		for _, a := range []int{-1, 0, 3} {
			does(t, n, "errno 2", step(k, a, 1))
			does(t, nil, "errno 1", step(k, a, 1))
		}
	}
	for k := api.NetWrite; k <= api.NetSettle; k++ {
		does(t, nil, "errno 1", step(k, 0, 1))
		if k == api.NetSettle {
			continue
		}
		for _, a := range []int{math.MinInt, -1, 3, math.MaxInt} {
			does(t, n, "errno 270", step(k, a, 1))
			does(t, n, "errno 270", step(k, a, a))
		}
	}
	for k := api.NetMeet; k <= api.NetLie; k++ {
		for _, b := range []int{math.MinInt, -1, 1, 3, math.MaxInt} {
			does(t, n, "errno 270", step(k, 1, b))
		}
	}
	for _, far := range []int{-1, 1, 3} {
		does(t, n, "ok", api.NetStep{Kind: api.NetWrite, A: 1, B: far, Author: 1, Bytes: []byte{1}})
		does(t, n, "ok", api.NetStep{Kind: api.NetCrash, A: 1, B: far, Author: -1, Edits: []api.Edit{{}}})
		if s := n.Do(api.NetStep{Kind: api.NetSettle, A: far, B: far, Author: -1}); !strings.HasPrefix(s, "ok ") {
			t.Errorf("settled: %s", s)
		}
	}
	does(t, n, "ok", step(api.NetCrash, 0, 0)) // so that it has something to say
	does(t, n, "ok", api.NetStep{Kind: api.NetMeet, A: 0, B: 1, Author: -1, Edits: []api.Edit{{}}, Bytes: []byte{1}})
	does(t, n, "ok", api.NetStep{Kind: api.NetCarry, A: 0, B: 1, Author: -1, Edits: []api.Edit{{}}, Bytes: []byte{1}})
}

// P27.2: what a Commit refuses, and what it makes
func TestWrite(t *testing.T) {
	n := newNet(t, 2, 4)
	does(t, n, "errno 51", write(0, 0, put("a", 1)))
	does(t, n, "errno 51", write(0, api.MaxAuthor))
	does(t, n, "errno 40", write(0, 1, api.Edit{Act: 11}))
	does(t, n, "errno 41", write(0, 1, put("", 1)))
	does(t, n, "errno 55", write(0, 1, make([]api.Edit, api.MaxEdits+1)...))
	shows(t, n, 0, "{}")
	does(t, n, "ok", write(0, 1, put("a", 1), put("b", 2)))
	shows(t, n, 0, `{"a":1,"b":2}`)
	shows(t, n, 1, "{}")
	want := digest.Sum(encoded(t, api.Update{Author: 1, Seq: 1, Edits: []api.Edit{put("a", 1), put("b", 2)}}))
	if l := n.Accepted(0); !slices.Equal(l, []api.Hash{want}) || !slices.Equal(n.Frontier(0), l) {
		t.Errorf("%x is accepted, not %x", l, want)
	}
}

// under sends several unlike messages on their way from 0 to 1: each tells of one update more.
func under(t *testing.T, n *Net, size int) {
	t.Helper()
	for i := range size {
		does(t, n, "ok", write(0, 1, put("a", i)))
		does(t, n, "ok", step(api.NetMeet, 0, 1))
	}
}

// heard is the heads of which 1 was told last by 0: it needs them.
func heard(t *testing.T, n *Net) []api.Hash {
	t.Helper()
	m, is := n.nodes[1].peers[0].Tell()
	if !is {
		t.Fatal("1 has nothing to say")
	}
	return m.Need
}

// P27.2, P27.3: which message arrives, and which stay under way
func TestUnderWay(t *testing.T) {
	for name, c := range map[string]struct {
		kind   api.NetKind
		left   int
		hears  int // the number of the message that is heard; -1: none
		behind int // what is the oldest one then
	}{
		"carry": {api.NetCarry, 2, 0, 1},
		"last":  {api.NetLast, 2, 2, 0},
		"twice": {api.NetTwice, 3, 0, 0},
		"lose":  {api.NetLose, 2, -1, 1},
	} {
		n := newNet(t, 3, 4)
		does(t, n, "none", step(c.kind, 0, 1))
		under(t, n, 3)
		row := n.Accepted(0)
		does(t, n, "none", step(c.kind, 1, 0))
		does(t, n, "none", step(c.kind, 0, 2))
		does(t, n, "none", step(c.kind, 2, 1))
		does(t, n, "ok", step(c.kind, 0, 1))
		if n.Way(0, 1) != c.left || n.Way(1, 0) != 0 || n.Way(0, 2) != 0 {
			t.Errorf("%s: %d are left", name, n.Way(0, 1))
		}
		need := heard(t, n)
		if c.hears < 0 && len(need) > 0 || c.hears >= 0 && !slices.Equal(need, row[c.hears:c.hears+1]) {
			t.Errorf("%s: %x is needed of %x", name, need, row)
		}
		does(t, n, "ok", step(api.NetCarry, 0, 1))
		if need = heard(t, n); !slices.Equal(need, row[c.behind:c.behind+1]) {
			t.Errorf("%s: %x is needed then, of %x", name, need, row)
		}
		for n.Way(0, 1) > 0 {
			does(t, n, "ok", step(api.NetLast, 0, 1))
		}
		does(t, n, "none", step(c.kind, 0, 1))
	}
}

// P27.2: who has nothing to say says nothing
func TestMeet(t *testing.T) {
	n := newNet(t, 2, 4)
	does(t, n, "ok", step(api.NetMeet, 0, 1))
	does(t, n, "ok", step(api.NetMeet, 0, 1))
	does(t, n, "ok", step(api.NetCarry, 0, 1))
	does(t, n, "ok", step(api.NetMeet, 1, 0))
	does(t, n, "none", step(api.NetMeet, 1, 0))
	does(t, n, "ok", step(api.NetCarry, 1, 0))
	does(t, n, "none", step(api.NetMeet, 0, 1))
	if n.Way(0, 1) != 1 || n.Way(1, 0) != 0 {
		t.Errorf("Way: %d, %d", n.Way(0, 1), n.Way(1, 0))
	}
	does(t, n, "ok", write(1, 1))
	does(t, n, "ok", step(api.NetMeet, 1, 0))
	does(t, n, "none", step(api.NetMeet, 0, 1))
}

// P27.2: bytes that nobody told
func TestLie(t *testing.T) {
	n := newNet(t, 3, 1)
	first := encoded(t, api.Update{Author: 7, Seq: 1, Edits: []api.Edit{put("a", 1)}})
	second := encoded(t, api.Update{Author: 7, Seq: 2, Parents: []api.Hash{digest.Sum(first)}, Edits: []api.Edit{put("a", 2)}})
	for want, b := range map[string][]byte{
		"errno 20":  {0, 0, 0, 0},
		"errno 22":  {0, 0, 0, 0, 0, 0},
		"errno 220": {0, 0, 0, 1, 7, 0},
		"errno 2":   {0, 0, 0, 0, 65},
		"ok":        {0, 0, 0, 0, 0},
	} {
		does(t, n, want, lie(0, 1, b))
		shows(t, n, 1, "{}")
	}
	does(t, n, "ok", lie(0, 1, message(t, api.Message{Updates: [][]byte{second, nil, {1, 2}}})))
	shows(t, n, 1, "{}")
	does(t, n, "ok", lie(2, 1, message(t, api.Message{Updates: [][]byte{first}})))
	shows(t, n, 1, `{"a":2}`)
	shows(t, n, 0, "{}")
	shows(t, n, 2, "{}")
	if n.Way(0, 1) != 0 {
		t.Error("a lie is under way")
	}
}

// P27.2: as whose bytes came, with that one the talk goes on
func TestWhoseBytes(t *testing.T) {
	n := newNet(t, 3, 4)
	h := api.Hash{5}
	does(t, n, "ok", lie(0, 1, message(t, api.Message{Heads: []api.Hash{h}})))
	for to, want := range map[int][]api.Hash{0: {h}, 2: nil} {
		does(t, n, "ok", step(api.NetMeet, 1, to))
		m, why, _ := parley.Decode(n.nodes[1].ways[to][0])
		if why != api.OK || !slices.Equal(m.Need, want) {
			t.Errorf("to %d: %x is needed, not %x", to, m.Need, want)
		}
	}
}

// P27.2: what a crash takes, and what stays
func TestCrash(t *testing.T) {
	n := newNet(t, 3, 4)
	under(t, n, 2)
	first := encoded(t, api.Update{Author: 7, Seq: 1, Edits: []api.Edit{put("b", 1)}})
	late := encoded(t, api.Update{Author: 7, Seq: 2, Parents: []api.Hash{digest.Sum(first)}})
	does(t, n, "ok", lie(1, 0, message(t, api.Message{Updates: [][]byte{late}})))
	does(t, n, "ok", lie(1, 0, message(t, api.Message{Updates: [][]byte{encoded(t, api.Update{Author: 8, Seq: 1, Edits: []api.Edit{put("c", 1)}})}})))
	does(t, n, "ok", step(api.NetCarry, 0, 1))
	does(t, n, "ok", step(api.NetMeet, 1, 0))
	all := n.Accepted(0)
	if len(n.nodes[0].Waiting()) != 1 || len(all) != 3 {
		t.Fatalf("%d wait, %d are accepted", len(n.nodes[0].Waiting()), len(all))
	}
	does(t, n, "ok", step(api.NetCrash, 0, 0))
	shows(t, n, 0, `{"a":1,"c":1}`)
	if len(n.nodes[0].Waiting()) != 0 || !slices.Equal(n.Accepted(0), all) {
		t.Error("what waited is there, or what was accepted is not")
	}
	if n.Way(0, 1) != 1 || n.Way(1, 0) != 1 {
		t.Errorf("%d and %d are under way", n.Way(0, 1), n.Way(1, 0))
	}
	does(t, n, "ok", step(api.NetMeet, 0, 1))
	m, _, _ := parley.Decode(n.nodes[0].ways[1][1])
	if len(m.Filter) > 0 || !slices.Equal(m.Heads, n.Frontier(0)) {
		t.Error("a peer that was made anew has heard something")
	}
	does(t, n, "ok", step(api.NetMeet, 1, 0))
	if m, _, _ = parley.Decode(n.nodes[1].ways[0][1]); len(m.Filter) == 0 {
		t.Error("a peer of another one has heard nothing any more")
	}
	// What was committed or came behind the crash is written down, too; options stay.
	does(t, n, "ok", write(0, 1, put("d", 1)))
	does(t, n, "ok", lie(2, 0, message(t, api.Message{Updates: [][]byte{first}})))
	does(t, n, "ok", step(api.NetCrash, 0, 0))
	does(t, n, "ok", step(api.NetCrash, 0, 0))
	shows(t, n, 0, `{"a":1,"b":1,"c":1,"d":1}`)
	for i := range 6 {
		n.Do(lie(1, 0, message(t, api.Message{Updates: [][]byte{encoded(t, api.Update{Author: 9, Seq: 1, Parents: []api.Hash{{byte(i)}}})}})))
	}
	if len(n.nodes[0].Waiting()) != 4 {
		t.Errorf("%d wait", len(n.nodes[0].Waiting()))
	}
}

// P27.2: bytes with an error are written down, too, and the others' stores are not touched
func TestStores(t *testing.T) {
	n := newNet(t, 2, 4)
	same := func() {
		t.Helper()
		for i, x := range n.nodes {
			if r := x.store.read(n.options); !slices.Equal(r.Accepted(), n.Accepted(i)) || r.Render() != n.Render(i) {
				t.Errorf("%d has written down %s, not %s", i, r.Render(), n.Render(i))
			}
		}
	}
	same()
	for i := range 4 {
		does(t, n, "ok", write(i%2, 1+i, put("a", i)))
		same()
		does(t, n, "errno 20", lie(0, 1, nil))
		same()
	}
	n.Do(settle())
	same()
}

// P27.2: how a settling goes
func TestSettle(t *testing.T) {
	n := newNet(t, 2, 4)
	under(t, n, 1)
	does(t, n, "ok", step(api.NetMeet, 1, 0))
	does(t, n, "ok 4", settle())
	does(t, n, "ok 2", settle()) // all peers are new
	if n.Way(0, 1) != 1 || n.Way(1, 0) != 1 {
		t.Errorf("%d and %d are under way", n.Way(0, 1), n.Way(1, 0))
	}
	n = newNet(t, 1, 4)
	does(t, n, "ok", write(0, 1, put("a", 1)))
	does(t, n, "ok 0", settle())
	shows(t, n, 0, `{"a":1}`)
}

// two is an update and one behind it, with the filter of both.
type two struct {
	ids    []api.Hash
	rows   [][]byte
	filter *bloom.Filter
}

// twosOf are many such of an author.
func twosOf(t *testing.T, author int) []two {
	t.Helper()
	var l []two
	for time := range 600 {
		x := two{rows: [][]byte{encoded(t, api.Update{Author: author, Seq: 1, Time: int64(time)})}}
		x.ids = append(x.ids, digest.Sum(x.rows[0]))
		x.rows = append(x.rows, encoded(t, api.Update{Author: author, Seq: 2, Parents: x.ids}))
		x.ids = append(x.ids, digest.Sum(x.rows[1]))
		x.filter = bloom.Of(x.ids)
		l = append(l, x)
	}
	return l
}

// hidden are two of them, of which each one's filter hides the other's first update, and not its second one.
func hidden(t *testing.T) (two, two) {
	t.Helper()
	theirs := twosOf(t, 2)
	for _, x := range twosOf(t, 1) {
		for _, y := range theirs {
			if x.filter.Has(y.ids[0]) && y.filter.Has(x.ids[0]) && !x.filter.Has(y.ids[1]) && !y.filter.Has(x.ids[1]) {
				return x, y
			}
		}
	}
	t.Fatal("no two that hide one another")
	return two{}, two{}
}

// P27.2: who never becomes even, for there is no room for what waits, talks for so many rounds and no more
func TestSettleEnds(t *testing.T) {
	x, y := hidden(t)
	n := newNet(t, 2, 0)
	for i := range 2 {
		does(t, n, "ok", lie(1, 0, message(t, api.Message{Updates: x.rows[i : i+1]})))
		does(t, n, "ok", lie(0, 1, message(t, api.Message{Updates: y.rows[i : i+1]})))
	}
	if s := n.Do(settle()); s != "ok 2000" || n.Even() {
		t.Errorf("settled: %s; even: %v", s, n.Even())
	}
	if !slices.Equal(n.Accepted(0), x.ids) || !slices.Equal(n.Accepted(1), y.ids) {
		t.Error("something was accepted")
	}
}

// P27.3
func TestAsked(t *testing.T) {
	n := newNet(t, 3, 4)
	under(t, n, 2)
	for _, i := range []int{math.MinInt, -1, 3, math.MaxInt} {
		if n.Render(i) != "" || len(n.Frontier(i)) > 0 || len(n.Accepted(i)) > 0 {
			t.Errorf("%d shows %s", i, n.Render(i))
		}
		if n.Way(i, 1) != 0 || n.Way(0, i) != 0 || n.Way(i, i) != 0 {
			t.Errorf("something is under way to %d", i)
		}
	}
	if n.Way(0, 1) != 2 || n.Way(0, 0) != 0 || n.Way(1, 0) != 0 {
		t.Errorf("Way: %d, %d, %d", n.Way(0, 1), n.Way(0, 0), n.Way(1, 0))
	}
	if len(n.Accepted(0)) != 2 || !slices.Equal(n.Frontier(0), n.Accepted(0)[1:]) {
		t.Errorf("%x, of %x", n.Frontier(0), n.Accepted(0))
	}
	var none *Net
	if none.Render(0) != "" || len(none.Frontier(0)) > 0 || len(none.Accepted(0)) > 0 || none.Way(0, 1) != 0 || none.Even() {
		t.Error("a nil net says something")
	}
}

// P27.3: all are looked at
func TestEven(t *testing.T) {
	for i := range 3 {
		n := newNet(t, 3, 4)
		does(t, n, "ok", write(i, 1))
		if n.Even() {
			t.Errorf("even, though %d has written", i)
		}
	}
}

// P27.3
func TestPlay(t *testing.T) {
	l := []api.NetStep{write(0, 1, put("a", 1)), step(api.NetMeet, 0, 1), step(api.NetCarry, 0, 1), step(api.NetCarry, 0, 1), settle(), step(77, 0, 0)}
	want := []string{"ok", "ok", "ok", "none", "ok 4", "errno 2"}
	if got := Play(2, options(4), l); !slices.Equal(got, want) {
		t.Errorf("%q", got)
	}
	if len(Play(0, options(4), l)) > 0 || len(Play(9, options(4), l)) > 0 || len(Play(2, api.Options{}, l)) > 0 || len(Play(2, options(4), nil)) > 0 {
		t.Error("a net that is none plays")
	}
}

// P3: what is handed in is not kept, what is answered is new
func TestNothingIsShared(t *testing.T) {
	n := newNet(t, 2, 4)
	edits := []api.Edit{put("a", 1)}
	does(t, n, "ok", write(0, 1, edits...))
	edits[0] = put("b", 2)
	b := message(t, api.Message{Updates: [][]byte{encoded(t, api.Update{Author: 7, Seq: 1, Edits: []api.Edit{put("c", 3)}})}})
	does(t, n, "ok", lie(1, 0, b))
	clear(b)
	all := n.Accepted(0)
	clear(n.Accepted(0))
	clear(n.Frontier(0))
	if !slices.Equal(n.Accepted(0), all) || len(n.Frontier(0)) != 2 {
		t.Error("an answer is shared")
	}
	does(t, n, "ok", step(api.NetCrash, 0, 0))
	shows(t, n, 0, `{"a":1,"c":3}`)
}

// A net is asked under a lock: whoever asks meanwhile sees it ahead of a step or behind it.
func TestAskedMeanwhile(t *testing.T) {
	n := newNet(t, 3, 4)
	var all sync.WaitGroup
	for a := range 3 {
		all.Go(func() {
			for i := range 20 {
				n.Do(write(a, 1+a, put("a", i)))
				n.Do(step(api.NetMeet, a, (a+1)%3))
				n.Do(step(api.NetCarry, (a+2)%3, a))
				n.Render(a)
				n.Frontier(a)
				n.Accepted((a + 1) % 3)
				n.Way(a, (a+1)%3)
				n.Even()
			}
			n.Do(settle())
		})
	}
	all.Wait()
	if !n.Even() || len(n.Accepted(0)) != 60 {
		t.Errorf("%d are accepted", len(n.Accepted(0)))
	}
}
