package gossip

import (
	"fmt"
	"math/rand"
	"slices"
	"strings"
	"testing"

	"estuary/api"
	"estuary/parley"
	"estuary/replica"
)

// pair is two replicas, the one that says something first.
type pair struct{ from, to int }

// model is a net by the chapter's words.
type model struct {
	o        api.Options
	replicas []*replica.Replica
	stores   [][][]byte
	peers    map[pair]*parley.Peer
	under    map[pair][][]byte
}

func newModel(n int, o api.Options) *model {
	m := &model{o: o, stores: make([][][]byte, n), peers: map[pair]*parley.Peer{}, under: map[pair][][]byte{}}
	for range n {
		r, _ := replica.New(o)
		m.replicas = append(m.replicas, r)
	}
	for i := range n {
		m.newPeers(i)
	}
	return m
}

func (m *model) newPeers(i int) {
	for j := range m.replicas {
		if i != j {
			m.peers[pair{i, j}] = parley.New(m.replicas[i])
		}
	}
}

func word(e api.Errno) string {
	if e == 0 {
		return "ok"
	}
	return fmt.Sprintf("errno %d", e)
}

func (m *model) arrives(p pair, b []byte) string {
	x, why, _ := parley.Decode(b)
	if why == api.OK {
		why = m.peers[pair{p.to, p.from}].Hear(x)
	}
	m.stores[p.to] = m.replicas[p.to].Export()
	return word(why)
}

// tells is what the first of two says to the other now.
func (m *model) tells(p pair) []byte {
	x, is := m.peers[p].Tell()
	if !is {
		return nil
	}
	b, _ := parley.Encode(x)
	return b
}

func (m *model) do(s api.NetStep) string {
	is := func(i int) bool { return i >= 0 && i < len(m.replicas) }
	two := s.Kind >= api.NetMeet && s.Kind <= api.NetLie
	p := pair{s.A, s.B}
	switch {
	case s.Kind == 0 || s.Kind > 9:
		return "errno 2"
	case s.Kind == api.NetSettle:
		return fmt.Sprintf("ok %d", m.settle())
	case !is(s.A) || two && (!is(s.B) || s.A == s.B):
		return "errno 270"
	case s.Kind == api.NetWrite:
		x := m.replicas[s.A].Commit(s.Author, 0, "", s.Edits)
		if len(x.Taken) > 0 {
			m.stores[s.A] = m.replicas[s.A].Export()
		}
		return word(x.Why)
	case s.Kind == api.NetCrash:
		m.replicas[s.A], _ = replica.New(m.o)
		for _, b := range m.stores[s.A] {
			m.replicas[s.A].Receive(b)
		}
		m.newPeers(s.A)
		return "ok"
	case s.Kind == api.NetLie:
		return m.arrives(p, s.Bytes)
	case s.Kind == api.NetMeet:
		b := m.tells(p)
		if b == nil {
			return "none"
		}
		m.under[p] = append(m.under[p], b)
		return "ok"
	}
	return m.carries(s.Kind, p)
}

func (m *model) carries(k api.NetKind, p pair) string {
	l := m.under[p]
	if len(l) == 0 {
		return "none"
	}
	switch k {
	case api.NetTwice:
		return m.arrives(p, l[0])
	case api.NetLast:
		m.under[p] = l[:len(l)-1]
		return m.arrives(p, l[len(l)-1])
	}
	m.under[p] = l[1:]
	if k == api.NetLose {
		return "ok"
	}
	return m.arrives(p, l[0])
}

func (m *model) settle() int {
	count, before := 0, -1
	for i := range m.replicas {
		m.newPeers(i)
	}
	for round := 0; round < 1000 && count != before; round++ {
		before = count
		for a := range m.replicas {
			for b := range m.replicas {
				if a == b {
					continue
				}
				if said := m.tells(pair{a, b}); said != nil {
					count++
					m.arrives(pair{a, b}, said)
				}
			}
		}
	}
	return count
}

// same asks that a net is as the model is, in all that it tells.
func (m *model) same(t *testing.T, n *Net) {
	t.Helper()
	even := true
	for i, r := range m.replicas {
		if n.Render(i) != r.Render() || !slices.Equal(n.Frontier(i), r.Frontier()) || !slices.Equal(n.Accepted(i), r.Accepted()) {
			t.Fatalf("%d shows %s, not %s", i, n.Render(i), r.Render())
		}
		for j := range m.replicas {
			if n.Way(i, j) != len(m.under[pair{i, j}]) {
				t.Fatalf("%d are under way from %d to %d, not %d", n.Way(i, j), i, j, len(m.under[pair{i, j}]))
			}
		}
		even = even && slices.Equal(r.Accepted(), m.replicas[0].Accepted())
	}
	if n.Even() != even {
		t.Fatalf("Even: %v", n.Even())
	}
}

// P27.2, P27.3: nets by chance, held against the chapter's words
func TestAnySteps(t *testing.T) {
	count := map[string]int{}
	for seed := range int64(300) {
		r := rand.New(rand.NewSource(seed))
		size := 1 + r.Intn(pick(r, 2, 4, api.MaxNodes))
		o := api.Options{Every: 1 + r.Intn(4), Keep: r.Intn(4), Orphans: pick(r, 0, 1, 8, 64)}
		x := newLiar(t, r, 1+r.Intn(10))
		n, why := New(size, o)
		if why != api.OK {
			t.Fatalf("New: %d", why)
		}
		m := newModel(size, o)
		var steps []api.NetStep
		var answers []string
		for range 1 + r.Intn(60) {
			s := x.anyStep(t, size)
			got, want := n.Do(s), m.do(s)
			if got != want {
				t.Fatalf("seed %d: the step %d: %s, not %s", seed, s.Kind, got, want)
			}
			m.same(t, n)
			front, _, _ := strings.Cut(got, " ")
			count[fmt.Sprint(s.Kind, front)]++
			steps, answers = append(steps, s), append(answers, got)
		}
		if got := Play(size, o, steps); !slices.Equal(got, answers) {
			t.Fatalf("seed %d: Play: %q, not %q", seed, got, answers)
		}
	}
	for k := api.NetWrite; k <= api.NetSettle; k++ {
		if count[fmt.Sprint(k, "ok")] < 20 {
			t.Errorf("only %d steps %d were done", count[fmt.Sprint(k, "ok")], k)
		}
	}
	for _, k := range []api.NetKind{api.NetMeet, api.NetCarry, api.NetLose, api.NetTwice, api.NetLast} {
		if count[fmt.Sprint(k, "none")] < 20 {
			t.Errorf("only %d steps %d had nothing to do", count[fmt.Sprint(k, "none")], k)
		}
	}
}
