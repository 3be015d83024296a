package parley

import (
	"bytes"
	"math/rand"
	"slices"
	"testing"

	"estuary/api"
	"estuary/bloom"
	"estuary/digest"
	"estuary/replica"
	"estuary/update"
)

// may asks that a message may be, and that some of the replicas have accepted all that it sends.
func may(t *testing.T, m api.Message, r ...*replica.Replica) {
	t.Helper()
	if b, why := Encode(m); why != api.OK || len(b) == 0 {
		t.Fatalf("what was told may not be: %d", why)
	}
	for _, row := range m.Updates {
		id := digest.Sum(row)
		if !slices.ContainsFunc(r, func(r *replica.Replica) bool { return r.Graph().Has(id) }) {
			t.Fatal("what was sent is not accepted")
		}
	}
}

// tells asks that a peer tells just this.
func tells(t *testing.T, name string, p *Peer, want api.Message) api.Message {
	t.Helper()
	if p.Even() {
		t.Errorf("%s: even", name)
	}
	m, is := p.Tell()
	if !is {
		t.Fatalf("%s: nothing was told", name)
	}
	sameMessage(t, name, m, want)
	return m
}

func hears(t *testing.T, p *Peer, m api.Message) {
	t.Helper()
	if why := p.Hear(m); why != api.OK {
		t.Fatalf("Hear: %d", why)
	}
}

// quiet asks that a peer is even, and tells nothing.
func quiet(t *testing.T, name string, p *Peer) {
	t.Helper()
	m, is := p.Tell()
	if !p.Even() || is {
		t.Errorf("%s: even %v, told %v", name, p.Even(), is)
	}
	sameMessage(t, name, m, api.Message{})
}

func filterOf(l ...api.Hash) []byte { return bloom.Of(l).Encode() }

// The first example: P22.1, P22.2, P22.4
func TestTwoFresh(t *testing.T) {
	p, q := New(fresh(t, 4)), New(fresh(t, 4))
	if p.Even() || q.Even() {
		t.Error("who has heard nothing is even")
	}
	hears(t, q, tells(t, "p", p, api.Message{}))
	hears(t, p, tells(t, "q", q, api.Message{Filter: filterOf()}))
	quiet(t, "p", p)
	quiet(t, "q", q)
	if n := len(talk(t, New(fresh(t, 4)), New(fresh(t, 4)))); n != 2 {
		t.Errorf("%d messages", n)
	}
}

// The second example: P22.2 to P22.4
func TestOneLacksOne(t *testing.T) {
	a, b := fresh(t, 4), fresh(t, 4)
	x := a.Commit(1, 0, "", []api.Edit{put("a", 1)}).Id
	l := []api.Hash{x}
	p, q := New(a), New(b)
	hears(t, q, tells(t, "the first", p, api.Message{Heads: l}))
	hears(t, p, tells(t, "the second", q, api.Message{Need: l, Filter: filterOf()}))
	hears(t, q, tells(t, "the third", p, api.Message{Heads: l, Filter: filterOf(x), Updates: a.Export()}))
	if b.Render() != `{"a":1}` {
		t.Errorf("Render = %s", b.Render())
	}
	hears(t, p, tells(t, "the fourth", q, api.Message{Heads: l, Since: l, Filter: filterOf()}))
	quiet(t, "p", p)
	quiet(t, "q", q)
}

// P22.4: each part of being even
func TestEven(t *testing.T) {
	w := newWorld()
	x := w.add(t, 1, 1)
	y := w.add(t, 2, 2, x)
	at := []api.Hash{y}
	same := api.Message{Heads: at, Since: at, Filter: filterOf()}
	peer := func(tell bool, l ...api.Message) *Peer {
		r := fresh(t, 4)
		w.give(t, r, y)
		p := New(r)
		if tell {
			p.Tell()
		}
		for _, m := range l {
			hears(t, p, m)
		}
		return p
	}
	for name, c := range map[string]struct {
		p    *Peer
		even bool
	}{
		"told, heard that the other side knows":  {peer(true, same), true},
		"heard, and told nothing":                {peer(false, same), false},
		"told, and heard nothing":                {peer(true), false},
		"neither":                                {peer(false), false},
		"the other side does not know":           {peer(true, api.Message{Heads: at, Filter: filterOf()}), false},
		"the other side knows of less":           {peer(true, api.Message{Heads: at, Since: []api.Hash{x}, Filter: filterOf()}), false},
		"the other side has heard nothing":       {peer(true, api.Message{Heads: at, Since: at}), false},
		"the other side has other heads":         {peer(true, api.Message{Heads: []api.Hash{x}, Since: at, Filter: filterOf()}), false},
		"the other side has more heads":          {peer(true, api.Message{Heads: up(x, y), Since: at, Filter: filterOf()}), false},
		"the other side has none":                {peer(true, api.Message{Since: at, Filter: filterOf()}), false},
		"the last message counts":                {peer(true, same, api.Message{}), false},
		"the last message counts, and says same": {peer(true, api.Message{}, same), true},
	} {
		if c.p.Even() != c.even {
			t.Errorf("%s: %v", name, c.p.Even())
		}
		if _, is := c.p.Tell(); is == c.even {
			t.Errorf("%s: told %v", name, is)
		}
	}
	// Whoever has answered is even, whatever the other side knows of it, till the replica is another one.
	p := peer(false, api.Message{Heads: at})
	p.Tell()
	quiet(t, "answered", p)
	p.replica.Commit(1, 0, "", nil)
	if _, is := p.Tell(); p.Even() || !is {
		t.Error("the replica has changed since")
	}
	// What was said last is not what there is now, though the other side has that.
	p = peer(true)
	x = p.replica.Commit(3, 0, "", nil).Id
	hears(t, p, api.Message{Heads: []api.Hash{x}, Since: []api.Hash{x}, Filter: filterOf()})
	if p.Even() {
		t.Error("what is there now was never told")
	}
	p.Tell()
	quiet(t, "told now", p)
}

// P22.2: what stands in a message at each turn, on a graph that is known
func TestWhatIsTold(t *testing.T) {
	w := newWorld()
	x := w.add(t, 1, 1)
	y := w.add(t, 2, 2, x)
	z := w.add(t, 3, 3, x)
	v := w.add(t, 4, 4)
	far := w.add(t, 1, 5, v)
	alien := api.Hash{7, 7, 7}
	r := fresh(t, 4)
	w.give(t, r, y, z)
	if why := r.Receive(w.rows[far]).Why; why != api.ErrParent {
		t.Fatalf("Receive: %d", why)
	}
	heads := up(y, z)
	rows := func(l ...api.Hash) [][]byte {
		var out [][]byte
		for _, h := range l {
			out = append(out, w.rows[h])
		}
		return out
	}
	order := r.Accepted()
	none := bloom.Of(nil)
	for name, c := range map[string]struct{ heard, want api.Message }{
		"nothing":                  {api.Message{}, api.Message{Heads: heads, Need: up(v), Filter: filterOf(x, y, z)}},
		"a head that waits":        {api.Message{Heads: up(far)}, api.Message{Heads: heads, Need: up(v), Filter: filterOf(x, y, z)}},
		"a head that is missing":   {api.Message{Heads: up(v)}, api.Message{Heads: heads, Need: up(v), Filter: filterOf(x, y, z)}},
		"a head of nothing":        {api.Message{Heads: up(alien, x)}, api.Message{Heads: heads, Need: up(alien, v), Since: up(x), Filter: filterOf(y, z)}},
		"heads, one in another":    {api.Message{Heads: up(x, y)}, api.Message{Heads: heads, Need: up(v), Since: up(y), Filter: filterOf(z)}},
		"needs":                    {api.Message{Need: up(y, x, alien, far, v)}, api.Message{Heads: heads, Need: up(v), Filter: filterOf(x, y, z), Updates: rows(x, y)}},
		"an empty filter of none":  {api.Message{Filter: none.Encode()}, api.Message{Heads: heads, Need: up(v), Filter: filterOf(x, y, z), Updates: rows(order...)}},
		"needs ahead of what lack": {api.Message{Need: up(z), Filter: none.Encode()}, api.Message{Heads: heads, Need: up(v), Filter: filterOf(x, y, z), Updates: append(rows(z), rows(x, y)...)}},
		"what heads have":          {api.Message{Heads: up(y), Filter: none.Encode()}, api.Message{Heads: heads, Need: up(v), Since: up(y), Filter: filterOf(z), Updates: rows(z)}},
		"what Since has":           {api.Message{Since: up(y), Filter: none.Encode()}, api.Message{Heads: heads, Need: up(v), Filter: filterOf(x, y, z), Updates: rows(z)}},
		"needs that heads have":    {api.Message{Heads: up(y), Since: up(z), Need: up(x), Filter: none.Encode()}, api.Message{Heads: heads, Need: up(v), Since: up(y), Filter: filterOf(z), Updates: rows(x)}},
		"a filter of all":          {api.Message{Filter: filterOf(x, y, z)}, api.Message{Heads: heads, Need: up(v), Filter: filterOf(x, y, z)}},
		"a filter of some, behind": {api.Message{Filter: filterOf(y, z)}, api.Message{Heads: heads, Need: up(v), Filter: filterOf(x, y, z), Updates: rows(order...)}},
		"a filter of some, ahead":  {api.Message{Filter: filterOf(x, y)}, api.Message{Heads: heads, Need: up(v), Filter: filterOf(x, y, z), Updates: rows(z)}},
	} {
		p := New(r)
		tells(t, name+", ahead of it", p, api.Message{Heads: heads, Need: up(v)})
		hears(t, p, c.heard)
		tells(t, name, p, c.want)
	}
}

// P22.2, P22.10: not more than may be sent, nor asked for
func TestFullMessages(t *testing.T) {
	r := rand.New(rand.NewSource(1))
	w := newWorld()
	for i := range 200 {
		w.add(t, 1+i, i)
	}
	here := fresh(t, api.MaxOrphans)
	w.give(t, here, w.ids...)
	order := here.Accepted()
	for _, n := range []int{0, 1, 63, 64, 65, 150} {
		p := New(here)
		need := slices.Clone(order)
		slices.Reverse(need)
		need = need[:n]
		hears(t, p, api.Message{Need: up(need...), Filter: filterOf()})
		m, _ := p.Tell()
		first := here.Bytes(need)
		want := append(first[:min(n, api.MaxSend)], here.Bytes(order[:max(0, api.MaxSend-n)])...)
		if !slices.EqualFunc(m.Updates, want, bytes.Equal) || len(m.Updates) != api.MaxSend {
			t.Errorf("%d were asked for: %d were sent, or others", n, len(m.Updates))
		}
		may(t, m, here)
	}
	p := New(here)
	far := anyHashes(r, api.MaxUpdates)
	for i := range 3 {
		here.Receive(encoded(t, api.Update{Parents: anyHashes(r, 8), Author: 1, Seq: 1, Time: int64(i)}))
	}
	hears(t, p, api.Message{Heads: far})
	m, _ := p.Tell()
	if want := up(append(far, here.Missing()...)...)[:api.MaxUpdates]; !slices.Equal(m.Need, want) {
		t.Errorf("%d are needed, or others", len(m.Need))
	}
	may(t, m, here)
}

func encoded(t *testing.T, u api.Update) []byte {
	t.Helper()
	b, why := update.Encode(u)
	if why != api.OK {
		t.Fatalf("Encode: %d", why)
	}
	return b
}

// wrong are messages that may not be.
func wrong() map[string]api.Message {
	many := make([]api.Hash, api.MaxUpdates+1)
	for i := range many {
		many[i] = api.Hash{byte(i >> 8), byte(i)}
	}
	twice, falling := []api.Hash{{1}, {1}}, []api.Hash{{1}, {3}, {2}}
	long := make([]byte, api.MaxUpdate+1)
	return map[string]api.Message{
		"Heads that fall":          {Heads: falling},
		"Heads twice":              {Heads: twice},
		"Heads, too many":          {Heads: many},
		"Need that falls":          {Need: falling},
		"Need twice":               {Need: twice},
		"Need, too many":           {Need: many},
		"Since that falls":         {Since: falling},
		"Since twice":              {Since: twice},
		"Since, too many":          {Since: many},
		"no filter":                {Filter: []byte{7}},
		"a filter and a byte":      {Filter: append(filterOf(), 0)},
		"a filter less a byte":     {Filter: filterOf()[:10]},
		"an update that is long":   {Updates: [][]byte{nil, long}},
		"too many updates":         {Updates: make([][]byte, api.MaxSend+1)},
		"right updates, no filter": {Filter: []byte{0}, Updates: [][]byte{{0x45, 0x53, 0x54, 0x31, 0, 1, 1, 0, 0, 0}}},
	}
}

// P22.3, P22.5: what may not be changes nothing, and is not written
func TestWrongMessages(t *testing.T) {
	r := fresh(t, 4)
	x := r.Commit(1, 0, "", nil).Id
	p := New(r)
	p.Tell()
	hears(t, p, api.Message{Heads: []api.Hash{x}})
	p.Tell()
	for name, m := range wrong() {
		if why := p.Hear(m); why != api.ErrTalk {
			t.Errorf("%s: Hear: %d", name, why)
		}
		if b, why := Encode(m); why != api.ErrTalk || len(b) > 0 {
			t.Errorf("%s: Encode: %x, %d", name, b, why)
		}
		quiet(t, name, p)
		if !slices.Equal(r.Accepted(), []api.Hash{x}) {
			t.Fatalf("%s: the replica has changed", name)
		}
	}
}

// P22.3: what is just within the limits, and updates of whatever bytes
func TestGreatMessages(t *testing.T) {
	r := rand.New(rand.NewSource(2))
	many := anyHashes(r, api.MaxUpdates)
	full, _ := bloom.New(api.MaxFilter, api.MaxProbes)
	m := api.Message{Heads: many, Need: many, Since: many, Filter: full.Encode(), Updates: make([][]byte, api.MaxSend)}
	m.Updates[3] = make([]byte, api.MaxUpdate)
	good := encoded(t, api.Update{Author: 1, Seq: 1})
	m.Updates[7] = good
	here := fresh(t, 4)
	p := New(here)
	hears(t, p, m)
	if !slices.Equal(here.Accepted(), []api.Hash{digest.Sum(good)}) {
		t.Error("a right update among others was not received")
	}
	b, why := Encode(m)
	back, e, at := Decode(b)
	if why != api.OK || e != api.OK || at != 0 {
		t.Fatalf("Encode: %d, Decode: %d at %d", why, e, at)
	}
	sameMessage(t, "the greatest", back, m)
}

// P22.3: the updates are received in their order
func TestHeardInOrder(t *testing.T) {
	w := newWorld()
	x := w.add(t, 1, 1)
	y := w.add(t, 1, 2, x)
	r := fresh(t, 0)
	hears(t, New(r), api.Message{Updates: [][]byte{w.rows[y], w.rows[x]}})
	if !slices.Equal(r.Accepted(), []api.Hash{x}) {
		t.Error("what came ahead of its parent has no room to wait")
	}
	r = fresh(t, 0)
	hears(t, New(r), api.Message{Updates: [][]byte{w.rows[x], w.rows[y]}})
	if !slices.Equal(r.Accepted(), []api.Hash{x, y}) {
		t.Error("what came behind its parent is not accepted")
	}
}

// P22.1 to P22.4, P1
func TestNil(t *testing.T) {
	p := New(nil)
	if p != nil {
		t.Fatal("a peer of no replica")
	}
	m, is := p.Tell()
	sameMessage(t, "nil", m, api.Message{})
	if is || p.Even() || p.Hear(api.Message{}) != api.ErrNil || p.Hear(api.Message{Heads: []api.Hash{{2}, {1}}}) != api.ErrNil {
		t.Error("a nil peer says something")
	}
}

// P3: what is heard is not kept, what is told is new
func TestNothingIsShared(t *testing.T) {
	w := newWorld()
	x := w.add(t, 1, 1)
	y := w.add(t, 2, 2)
	z := w.add(t, 3, 3)
	r := fresh(t, 4)
	w.give(t, r, x, z)
	p := New(r)
	heard := func() api.Message {
		return api.Message{Heads: up(y), Need: up(y), Since: up(x), Filter: filterOf(), Updates: [][]byte{w.rows[y]}}
	}
	m := heard()
	hears(t, p, m)
	sameMessage(t, "Hear changes nothing", m, heard())
	spoil(m)
	first := tells(t, "what was heard is kept", p, api.Message{Heads: up(x, y, z), Since: up(y), Filter: filterOf(x, z), Updates: [][]byte{w.rows[y], w.rows[z]}})
	kept, _ := Encode(first)
	spoil(first)
	hears(t, p, api.Message{Heads: up(x, y, z), Since: up(x, y, z), Filter: filterOf()})
	quiet(t, "what was said is spoilt", p)
	hears(t, p, heard())
	again, _ := p.Tell()
	if b, _ := Encode(again); !bytes.Equal(b, kept) {
		t.Error("what was told is shared")
	}
	if b := w.rows[y]; !bytes.Equal(b, r.Bytes([]api.Hash{y})[0]) {
		t.Error("the replica's bytes are shared")
	}
}

// spoil changes all memory of a message, spare room too, but the bytes of the updates.
func spoil(m api.Message) {
	for _, l := range [][]api.Hash{m.Heads, m.Need, m.Since} {
		l = l[:cap(l)]
		for i := range l {
			l[i] = api.Hash{0xee, byte(i)}
		}
	}
	for b := m.Filter[:cap(m.Filter)]; len(b) > 0; b = b[1:] {
		b[0] = 0xee
	}
	clear(m.Updates)
}
