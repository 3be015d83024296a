package seq

import (
	"math"
	"math/rand"
	"slices"
	"testing"

	"estuary/api"
)

func id(n int) api.Id { return api.Id{Hash: api.Hash{7}, N: n} }

var front = api.Id{}

func ids(l ...int) []api.Id {
	var out []api.Id
	for _, n := range l {
		out = append(out, id(n))
	}
	return out
}

// must puts each of these elements behind the other.
func must(t *testing.T, s *Seq, pairs ...[2]api.Id) {
	t.Helper()
	for _, p := range pairs {
		if why := s.Insert(p[0], p[1]); why != api.OK {
			t.Fatalf("Insert(%v, %v): %d", p[0], p[1], why)
		}
	}
}

// one is a model's element; a model has them in the order in which they were put.
type one struct {
	id, behind api.Id
	hidden     bool
}

type model []one

// order is the order, word by word: what was put last behind an element comes first, with all that stands behind it by its being put there.
func (m model) order(behind api.Id) []one {
	var l []one
	for i := len(m) - 1; i >= 0; i-- {
		if m[i].behind == behind {
			l = append(append(l, m[i]), m.order(m[i].id)...)
		}
	}
	return l
}

func (m model) index(id api.Id) int {
	return slices.IndexFunc(m, func(e one) bool { return e.id == id })
}

func (m model) insert(id, behind api.Id) (model, api.Errno) {
	switch {
	case id.N < 1:
		return m, api.ErrRange
	case m.index(id) >= 0:
		return m, api.ErrKnown
	case behind != front && m.index(behind) < 0:
		return m, api.ErrNone
	}
	return append(slices.Clone(m), one{id: id, behind: behind}), api.OK
}

func (m model) take(id api.Id) (model, api.Errno) {
	at := m.index(id)
	if at < 0 {
		return m, api.ErrNone
	}
	for _, e := range m {
		if e.behind == id {
			return m, api.ErrChild
		}
	}
	return slices.Delete(slices.Clone(m), at, at+1), api.OK
}

func (m model) show(id api.Id, shown bool) (model, api.Errno) {
	at := m.index(id)
	if at < 0 {
		return m, api.ErrNone
	}
	m = slices.Clone(m)
	m[at].hidden = !shown
	return m, api.OK
}

// tells holds all that a sequence tells against a model.
func tells(t *testing.T, s *Seq, m model) {
	t.Helper()
	order := m.order(front)
	var all, live []api.Id
	for rank, e := range order {
		behind, ok := s.Behind(e.id)
		at, there := s.At(rank)
		if !s.Has(e.id) || !ok || behind != e.behind || !there || at != e.id || s.Rank(e.id) != rank || s.Index(e.id) != len(live) {
			t.Fatalf("%v: Has %v, Behind %v %v, At %v %v, Rank %d, Index %d; rank %d, index %d", e, s.Has(e.id), behind, ok, at, there, s.Rank(e.id), s.Index(e.id), rank, len(live))
		}
		all = append(all, e.id)
		if !e.hidden {
			live = append(live, e.id)
		}
	}
	for i, want := range live {
		if got, ok := s.Nth(i); !ok || got != want || s.Index(want) != i {
			t.Fatalf("Nth(%d) = %v, %v, not %v", i, got, ok, want)
		}
	}
	if !slices.Equal(s.Ids(), all) || !slices.Equal(s.Live(), live) || s.Len() != len(all) || s.Shown() != len(live) {
		t.Fatalf("Ids %v, Live %v, Len %d, Shown %d; not %v, %v", s.Ids(), s.Live(), s.Len(), s.Shown(), all, live)
	}
	for _, n := range []int{math.MinInt, -1, len(all), len(all) + 1, math.MaxInt} {
		if got, ok := s.At(n); ok || got != front {
			t.Fatalf("At(%d) = %v, %v", n, got, ok)
		}
	}
	for _, n := range []int{math.MinInt, -1, len(live), len(live) + 1, math.MaxInt} {
		if got, ok := s.Nth(n); ok || got != front {
			t.Fatalf("Nth(%d) = %v, %v", n, got, ok)
		}
	}
}

// lacks asks for what a sequence tells of an element that is none.
func lacks(t *testing.T, s *Seq, id api.Id) {
	t.Helper()
	if behind, ok := s.Behind(id); s.Has(id) || ok || behind != front || s.Rank(id) != -1 || s.Index(id) != -1 {
		t.Errorf("%v: Has %v, Behind %v %v, Rank %d, Index %d", id, s.Has(id), behind, ok, s.Rank(id), s.Index(id))
	}
}

// P9.1 to P9.3, both examples
func TestExamples(t *testing.T) {
	a, b, c, d, x := id(1), id(2), id(3), id(4), id(5)
	s := New()
	tells(t, s, nil)
	must(t, s, [2]api.Id{a, front}, [2]api.Id{b, a}, [2]api.Id{c, a}, [2]api.Id{d, front})
	if got := s.Ids(); !slices.Equal(got, []api.Id{d, a, c, b}) {
		t.Fatalf("Ids = %v", got)
	}
	if s.Show(c, false) != api.OK || !slices.Equal(s.Live(), []api.Id{d, a, b}) || s.Index(c) != 2 {
		t.Errorf("c is hidden: %v, %d", s.Live(), s.Index(c))
	}
	if got, ok := s.Nth(2); got != b || !ok {
		t.Errorf("Nth(2) = %v, %v", got, ok)
	}
	for _, step := range []struct {
		id   api.Id
		want api.Errno
	}{{a, api.ErrChild}, {c, api.OK}, {a, api.ErrChild}, {b, api.OK}, {a, api.OK}, {a, api.ErrNone}} {
		if got := s.Take(step.id); got != step.want {
			t.Errorf("Take(%v) = %d, not %d", step.id, got, step.want)
		}
	}
	tells(t, s, model{{id: d}})
	if s.Insert(d, front) != api.ErrKnown || s.Insert(a, x) != api.ErrNone {
		t.Error("what may not be put was put")
	}
	tells(t, s, model{{id: d}})
}

// P9.1, P2: the first error that applies; what is refused changes nothing
func TestRefused(t *testing.T) {
	s := New()
	m := model{{id: id(1)}, {id: id(2), behind: id(1)}, {id: id(3), hidden: true}}
	must(t, s, [2]api.Id{id(1), front}, [2]api.Id{id(2), id(1)}, [2]api.Id{id(3), front})
	s.Show(id(3), false)
	other := api.Id{Hash: api.Hash{8}, N: 1}
	for _, x := range []struct {
		id, behind api.Id
		want       api.Errno
	}{
		{front, front, api.ErrRange},
		{id(0), id(1), api.ErrRange},
		{id(-1), id(99), api.ErrRange},
		{id(math.MinInt), front, api.ErrRange},
		{id(1), front, api.ErrKnown},
		{id(3), id(99), api.ErrKnown},
		{id(4), id(4), api.ErrNone},
		{id(4), id(0), api.ErrNone},
		{id(4), id(-1), api.ErrNone},
		{id(4), api.Id{N: -1}, api.ErrNone},
		{id(4), api.Id{N: 1}, api.ErrNone},
		{id(4), other, api.ErrNone},
	} {
		if got := s.Insert(x.id, x.behind); got != x.want {
			t.Errorf("Insert(%v, %v) = %d, not %d", x.id, x.behind, got, x.want)
		}
		tells(t, s, m)
	}
	for _, none := range []api.Id{front, id(0), id(-1), id(4), other, {N: 1}} {
		if s.Take(none) != api.ErrNone || s.Show(none, true) != api.ErrNone || s.Show(none, false) != api.ErrNone {
			t.Errorf("%v is taken for an element", none)
		}
		lacks(t, s, none)
	}
	if s.Take(id(1)) != api.ErrChild {
		t.Error("an element with another one behind it was taken")
	}
	tells(t, s, m)
}

// P9.1: the whole Id names an element; its N may be any above 0
func TestNames(t *testing.T) {
	s := New()
	l := []api.Id{{N: 1}, {Hash: api.Hash{1}, N: 1}, {Hash: api.Hash{31: 1}, N: 1}, {N: math.MaxInt}, {Hash: api.Hash{1}, N: 2}}
	var m model
	for _, x := range l {
		must(t, s, [2]api.Id{x, front})
		m, _ = m.insert(x, front)
	}
	tells(t, s, m)
}

// P9.1: Show of what is so already; a taken element comes back shown, where it is put then
func TestShowAndComeBack(t *testing.T) {
	s := New()
	must(t, s, [2]api.Id{id(1), front}, [2]api.Id{id(2), front})
	for _, shown := range []bool{true, false, false, true, true, false} {
		if s.Show(id(1), shown) != api.OK {
			t.Fatal("Show")
		}
		tells(t, s, model{{id: id(1), hidden: !shown}, {id: id(2)}})
	}
	if s.Take(id(1)) != api.OK {
		t.Fatal("Take")
	}
	lacks(t, s, id(1))
	must(t, s, [2]api.Id{id(1), id(2)})
	tells(t, s, model{{id: id(2)}, {id: id(1), behind: id(2)}})
}

// P9.4, P1
func TestNil(t *testing.T) {
	var s *Seq
	if s.Fork() != nil || s.Insert(id(1), front) != api.ErrNil || s.Insert(id(0), front) != api.ErrNil || s.Take(id(1)) != api.ErrNil || s.Show(id(1), true) != api.ErrNil {
		t.Error("a nil sequence does something")
	}
	if s.Len() != 0 || s.Shown() != 0 || len(s.Ids()) != 0 || len(s.Live()) != 0 {
		t.Error("a nil sequence has something")
	}
	lacks(t, s, id(1))
	lacks(t, s, front)
	for _, n := range []int{-1, 0, 1} {
		at, ok := s.At(n)
		nth, shown := s.Nth(n)
		if at != front || ok || nth != front || shown {
			t.Errorf("a nil sequence has an element %d", n)
		}
	}
}

// P3: what is answered shares no memory with the sequence
func TestMemory(t *testing.T) {
	s := New()
	must(t, s, [2]api.Id{id(1), front}, [2]api.Id{id(2), front}, [2]api.Id{id(3), front})
	for _, l := range [][]api.Id{s.Ids(), s.Live(), s.Ids(), s.Live()} {
		if !slices.Equal(l, ids(3, 2, 1)) {
			t.Fatalf("%v", l)
		}
		clear(l[:cap(l)])
	}
	tells(t, s, model{{id: id(1)}, {id: id(2)}, {id: id(3)}})
}

// step does the same to a sequence and to its model.
func step(t *testing.T, r *rand.Rand, s *Seq, m model, names int) model {
	t.Helper()
	x, y := id(r.Intn(names)), id(r.Intn(names))
	if len(m) > 0 && r.Intn(3) > 0 {
		y = m[r.Intn(len(m))].id
	}
	if r.Intn(6) == 0 {
		y = front
	}
	var got, want api.Errno
	next := m
	switch n := r.Intn(10); {
	case n < 5:
		got = s.Insert(x, y)
		next, want = m.insert(x, y)
	case n < 7:
		got = s.Take(y)
		next, want = m.take(y)
	default:
		shown := r.Intn(2) == 0
		got = s.Show(y, shown)
		next, want = m.show(y, shown)
	}
	if got != want {
		t.Fatalf("of %v, %v: %d, not %d; %v", x, y, got, want, m)
	}
	return next
}

// P9.1 to P9.3, P9.6, P9.8, P9.9, P5: scripts of steps, and of Forks that nobody else hears of
func TestScripts(t *testing.T) {
	for seed := range int64(60) {
		r := rand.New(rand.NewSource(seed))
		names := 5 + r.Intn(60)
		s, m := New(), model(nil)
		var asides []*Seq
		var were []model
		for range 250 {
			m = step(t, r, s, m, names)
			even(t, s)
			tells(t, s, m)
			lacks(t, s, id(names+r.Intn(5)))
			if r.Intn(30) == 0 {
				asides, were = append(asides, s.Fork()), append(were, m)
			}
			if i := r.Intn(20); i < len(asides) {
				were[i] = step(t, r, asides[i], were[i], names)
				s, asides[i], m, were[i] = asides[i], s, were[i], m
			}
		}
		for i := range asides {
			even(t, asides[i])
			tells(t, asides[i], were[i])
		}
	}
}

// P9.5: Insert and then Take is as it was, in all that is told and in all that is done from there on
func TestInsertAndTake(t *testing.T) {
	for seed := range int64(40) {
		r := rand.New(rand.NewSource(seed))
		s, m := New(), model(nil)
		for range 60 {
			m = step(t, r, s, m, 30)
		}
		var put []api.Id
		behind := front
		for i := range 25 {
			must(t, s, [2]api.Id{id(100 + i), behind})
			s.Show(id(100+i), r.Intn(2) == 0)
			put = append(put, id(100+i))
			if behind = put[r.Intn(len(put))]; r.Intn(2) == 0 && len(m) > 0 {
				behind = m[r.Intn(len(m))].id
			}
		}
		for _, x := range slices.Backward(put) {
			if s.Take(x) != api.OK {
				t.Fatal("Take")
			}
		}
		tells(t, s, m)
		for range 60 {
			m = step(t, r, s, m, 30)
		}
		tells(t, s, m)
	}
}

// P9.6, P9.7: two elements keep their order whatever is put, taken, shown or hidden; what is put right behind one stands right behind it
func TestTheyStay(t *testing.T) {
	r := rand.New(rand.NewSource(5))
	s := New()
	var there []api.Id
	for n := range 400 {
		before := s.Ids()
		behind := front
		if len(there) > 0 && r.Intn(10) > 0 {
			behind = there[r.Intn(len(there))]
		}
		must(t, s, [2]api.Id{id(n + 1), behind})
		there = append(there, id(n+1))
		if s.Rank(id(n+1)) != s.Rank(behind)+1 {
			t.Fatalf("%v stands at %d, put behind %d", id(n+1), s.Rank(id(n+1)), s.Rank(behind))
		}
		s.Show(there[r.Intn(len(there))], r.Intn(2) == 0)
		if got := there[r.Intn(len(there))]; s.Take(got) == api.OK {
			there = slices.Delete(there, slices.Index(there, got), slices.Index(there, got)+1)
		}
		gone := func(x api.Id) bool { return !slices.Contains(there, x) }
		left := slices.DeleteFunc(s.Ids(), func(x api.Id) bool { return !slices.Contains(before, x) })
		if !slices.Equal(left, slices.DeleteFunc(before, gone)) {
			t.Fatal("the order of some has changed")
		}
	}
}

// P9.8: any order of putting in which each comes behind the one that it was put behind, and in which those put behind one come in the same turn, makes the same sequence
func TestOrderOfWriting(t *testing.T) {
	for seed := range int64(30) {
		r := rand.New(rand.NewSource(seed))
		want := New()
		var puts []one
		for n := range 40 {
			e := one{id: id(n + 1)}
			if n > 0 && r.Intn(5) > 0 {
				e.behind = id(1 + r.Intn(n))
			}
			puts = append(puts, e)
			must(t, want, [2]api.Id{e.id, e.behind})
		}
		got, wait := New(), slices.Clone(puts)
		for len(wait) > 0 {
			i := r.Intn(len(wait))
			e := wait[i]
			early := slices.ContainsFunc(wait[:i], func(o one) bool { return o.behind == e.behind })
			if early || e.behind != front && !got.Has(e.behind) {
				continue
			}
			must(t, got, [2]api.Id{e.id, e.behind})
			wait = slices.Delete(wait, i, i+1)
		}
		if !slices.Equal(got.Ids(), want.Ids()) {
			t.Fatalf("%v, not %v", got.Ids(), want.Ids())
		}
	}
}

// P5
func TestFork(t *testing.T) {
	s := New()
	must(t, s, [2]api.Id{id(1), front}, [2]api.Id{id(2), id(1)})
	f := s.Fork()
	must(t, s, [2]api.Id{id(3), id(1)})
	must(t, f, [2]api.Id{id(3), id(2)}, [2]api.Id{id(4), id(3)})
	f.Show(id(1), false)
	s.Show(id(2), false)
	tells(t, s, model{{id: id(1)}, {id: id(2), behind: id(1), hidden: true}, {id: id(3), behind: id(1)}})
	tells(t, f, model{{id: id(1), hidden: true}, {id: id(2), behind: id(1)}, {id: id(3), behind: id(2)}, {id: id(4), behind: id(3)}})
	if s.Take(id(2)) != api.OK || f.Take(id(2)) != api.ErrChild || New().Fork().Insert(id(1), front) != api.OK {
		t.Error("a Fork is not one of its own")
	}
}
