package parley

import (
	"bytes"
	"math/rand"
	"slices"
	"testing"

	"estuary/api"
	"estuary/bloom"
	"estuary/digest"
	"estuary/replica"
	"estuary/update"
)

// known is what a replica has accepted, as the document's words go, slowly.
type known struct {
	updates map[api.Hash]api.Update
	rows    map[api.Hash][]byte
	depths  map[api.Hash]int
	order   []api.Hash
}

func knownTo(t *testing.T, r *replica.Replica) *known {
	t.Helper()
	k := &known{updates: map[api.Hash]api.Update{}, rows: map[api.Hash][]byte{}, depths: map[api.Hash]int{}}
	for _, b := range r.Export() {
		u, why, _ := update.Decode(b)
		if why != api.OK {
			t.Fatalf("Export: %d", why)
		}
		id := digest.Sum(b)
		deepest := 0
		for _, p := range u.Parents {
			deepest = max(deepest, k.depths[p])
		}
		k.updates[id], k.rows[id], k.depths[id] = u, b, deepest+1
		k.order = append(k.order, id)
	}
	slices.SortFunc(k.order, func(a, b api.Hash) int {
		if k.depths[a] != k.depths[b] {
			return k.depths[a] - k.depths[b]
		}
		return bytes.Compare(a[:], b[:])
	})
	return k
}

func (k *known) has(h api.Hash) bool { return k.depths[h] > 0 }

// past is those of a list that are accepted, and their ancestors.
func (k *known) past(l []api.Hash) map[api.Hash]bool {
	in := map[api.Hash]bool{}
	for next := slices.Clone(l); len(next) > 0; next = next[1:] {
		if h := next[0]; k.has(h) && !in[h] {
			in[h] = true
			next = append(next, k.updates[h].Parents...)
		}
	}
	return in
}

// tops are those of a list that are accepted and no ancestors of another of them.
func (k *known) tops(l []api.Hash) []api.Hash {
	var tops []api.Hash
	for _, h := range l {
		under := slices.ContainsFunc(l, func(x api.Hash) bool { return x != h && k.past([]api.Hash{x})[h] })
		if k.has(h) && !under {
			tops = append(tops, h)
		}
	}
	return up(tops...)
}

// model is a peer by the chapter's words.
type model struct {
	r              *replica.Replica
	m              *api.Message
	said           []api.Hash
	told, answered bool
}

func (p *model) even(t *testing.T) bool {
	f := knownTo(t, p.r)
	heads := f.tops(f.order)
	return p.m != nil && p.told && slices.Equal(p.m.Heads, heads) && slices.Equal(p.said, heads) &&
		(p.answered || slices.Equal(p.m.Since, heads) && len(p.m.Filter) > 0)
}

func (p *model) tell(t *testing.T) (api.Message, bool) {
	if p.even(t) {
		return api.Message{}, false
	}
	k := knownTo(t, p.r)
	out := api.Message{Heads: k.tops(k.order), Need: p.r.Missing()}
	if p.m != nil {
		out.Since = k.tops(p.m.Heads)
		for _, h := range p.m.Heads {
			if !k.has(h) && !slices.Contains(p.r.Waiting(), h) {
				out.Need = append(out.Need, h)
			}
		}
		past := k.past(out.Since)
		var rest []api.Hash
		for _, h := range k.order {
			if !past[h] {
				rest = append(rest, h)
			}
		}
		out.Filter = bloom.Of(rest).Encode()
		out.Updates = p.updates(t, k)
	}
	out.Need = up(out.Need...)
	out.Need = out.Need[:min(len(out.Need), api.MaxUpdates)]
	p.said, p.told, p.answered = out.Heads, true, true
	return out, true
}

// updates are what is sent: all that could be, cut at the end.
func (p *model) updates(t *testing.T, k *known) [][]byte {
	var l []api.Hash
	for _, h := range k.order {
		if slices.Contains(p.m.Need, h) {
			l = append(l, h)
		}
	}
	if len(p.m.Filter) > 0 {
		f, why, _ := bloom.Decode(p.m.Filter)
		if why != api.OK {
			t.Fatal("a filter that is none")
		}
		heads, since := k.past(p.m.Heads), k.past(p.m.Since)
		surely := func(h api.Hash) bool { return !heads[h] && !since[h] && !f.Has(h) }
		for _, h := range k.order {
			lacks := false
			for x := range k.past([]api.Hash{h}) {
				lacks = lacks || surely(x)
			}
			if lacks && !slices.Contains(l, h) {
				l = append(l, h)
			}
		}
	}
	var rows [][]byte
	for _, h := range l[:min(len(l), api.MaxSend)] {
		rows = append(rows, k.rows[h])
	}
	return rows
}

// hear is what a message does to a model whose replica has received its updates already.
func (p *model) hear(m api.Message) { p.m, p.answered = &m, false }

func sameMessage(t *testing.T, name string, got, want api.Message) {
	t.Helper()
	for _, x := range []struct {
		part      string
		got, want []api.Hash
	}{{"Heads", got.Heads, want.Heads}, {"Need", got.Need, want.Need}, {"Since", got.Since, want.Since}} {
		if !slices.Equal(x.got, x.want) {
			t.Fatalf("%s: %s are %x, not %x", name, x.part, x.got, x.want)
		}
	}
	if !bytes.Equal(got.Filter, want.Filter) {
		t.Fatalf("%s: Filter is %x, not %x", name, got.Filter, want.Filter)
	}
	if !slices.EqualFunc(got.Updates, want.Updates, bytes.Equal) {
		t.Fatalf("%s: %d Updates, not %d, or others", name, len(got.Updates), len(want.Updates))
	}
}

// anyMessage is a message that may be, of what there is in a world, of hashes of nothing, of spoilt bytes.
func (w *world) anyMessage(r *rand.Rand, rep *replica.Replica) api.Message {
	list := func(most int) []api.Hash {
		l := anyHashes(r, r.Intn(2))
		return up(append(l, w.some(r, r.Intn(most))...)...)
	}
	m := api.Message{Heads: list(4), Need: list(pick(r, 3, 3, 90)), Since: list(3)}
	switch r.Intn(4) {
	case 0:
		m.Heads = rep.Frontier()
	case 1:
		m.Heads, m.Since = rep.Frontier(), rep.Frontier()
	}
	switch r.Intn(5) {
	case 0:
	case 1:
		m.Filter = bloom.Of(nil).Encode()
	case 2:
		m.Filter = append([]byte{8, 1, 1}, byte(r.Intn(256)))
	default:
		m.Filter = bloom.Of(w.some(r, r.Intn(2*len(w.ids)))).Encode()
	}
	for range r.Intn(4) {
		b := slices.Clone(w.rows[pick(r, w.ids...)])
		if r.Intn(4) == 0 {
			b[r.Intn(len(b))] ^= byte(1 << r.Intn(8))
		}
		m.Updates = append(m.Updates, b)
	}
	return m
}

// P22.2 to P22.4, P22.7, P22.10: any calls, held against the chapter's words, with a replica that others change too
func TestAnyCalls(t *testing.T) {
	sent, quiet := 0, 0
	for seed := range int64(100) {
		r := rand.New(rand.NewSource(seed))
		w := anyWorld(t, r, pick(r, 3, 20, 120), pick(r, 1, 2, 4), pick(r, 2, 20, 200))
		here := fresh(t, pick(r, 0, 3, 40))
		w.give(t, here, w.some(r, r.Intn(pick(r, 8, 100)))...)
		p, want := New(here), &model{r: here}
		other := here.Fork()
		for range 12 {
			switch n := r.Intn(10); {
			case n == 0:
				here.Commit(5, 0, "", nil)
				other.Commit(5, 0, "", nil)
			case n < 4:
				m := w.anyMessage(r, here)
				if why := p.Hear(m); why != api.OK {
					t.Fatalf("Hear: %d", why)
				}
				want.hear(m)
				for _, b := range m.Updates {
					other.Receive(b)
				}
			default:
				if p.Even() != want.even(t) {
					t.Fatalf("seed %d: Even %v", seed, p.Even())
				}
				got, is := p.Tell()
				m, told := want.tell(t)
				if is != told {
					t.Fatalf("seed %d: told: %v", seed, is)
				}
				sameMessage(t, "Tell", got, m)
				may(t, got, here)
				sent = max(sent, len(got.Updates))
				if !is {
					quiet++
				}
			}
			if !slices.Equal(here.Accepted(), other.Accepted()) || !slices.Equal(here.Waiting(), other.Waiting()) {
				t.Fatalf("seed %d: the replica has got something else", seed)
			}
		}
	}
	if sent < api.MaxSend || quiet < 20 {
		t.Errorf("at most %d were sent, nothing was told %d times", sent, quiet)
	}
}
