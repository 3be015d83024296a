package marks

import (
	"fmt"
	"math"
	"math/rand"
	"reflect"
	"slices"
	"strings"
	"testing"

	"estuary/api"
	"estuary/seq"
)

var zero = api.Id{}

func id(n int) api.Id { return api.Id{Hash: api.Hash{3}, N: n} }

func yes() api.Value            { return api.Value{Kind: api.Bool, N: 1} }
func whole(n int64) api.Value   { return api.Value{Kind: api.Int, N: n} }
func text(s string) api.Value   { return api.Value{Kind: api.Text, S: s} }
func float(f float64) api.Value { return api.Value{Kind: api.Float, F: f} }

// sequence has the elements 1 to n, all shown.
func sequence(t *testing.T, n int) *seq.Seq {
	t.Helper()
	s, last := seq.New(), zero
	for i := range n {
		if s.Insert(id(i+1), last) != api.OK {
			t.Fatal("Insert")
		}
		last = id(i + 1)
	}
	return s
}

func add(t *testing.T, m *Marks, n int, name string, v api.Value, from, to api.Id, sides int) {
	t.Helper()
	if why := m.Add(id(n), name, v, from, to, sides); why != api.OK {
		t.Fatalf("Add: %d", why)
	}
}

func spans(t *testing.T, m *Marks, s *seq.Seq, want ...api.Span) {
	t.Helper()
	if got := m.Spans(s); !slices.Equal(got, want) {
		t.Errorf("Spans = %v, not %v", got, want)
	}
}

func over(t *testing.T, m *Marks, s *seq.Seq, of api.Id, want ...api.Span) {
	t.Helper()
	if got := m.Over(s, of); !slices.Equal(got, want) {
		t.Errorf("Over(%v) = %v, not %v", of.N, got, want)
	}
}

// P11.3, the first example
func TestSides(t *testing.T) {
	s := sequence(t, 4)
	for sides, want := range []api.Span{{From: 0, To: 2}, {From: 1, To: 2}, {From: 0, To: 3}, {From: 1, To: 3}} {
		m := New()
		add(t, m, 1, "bold", yes(), id(1), id(3), sides)
		spans(t, m, s, api.Span{From: want.From, To: want.To, Name: "bold", Value: yes()})
	}
	for sides, want := range [][]api.Span{nil, nil, {{From: 1, To: 2, Name: "bold", Value: yes()}}, nil} {
		m := New()
		add(t, m, 1, "bold", yes(), id(2), id(2), sides)
		spans(t, m, s, want...)
		over(t, m, s, id(2), want...)
		over(t, m, s, id(1))
		over(t, m, s, id(3))
	}
}

// P11.3, P11.7, the second example
func TestOffInBetween(t *testing.T) {
	s, m := sequence(t, 4), New()
	bold := func(from, to int) api.Span { return api.Span{From: from, To: to, Name: "bold", Value: yes()} }
	add(t, m, 1, "bold", yes(), id(1), id(3), 2)
	add(t, m, 2, "bold", api.Value{}, id(2), id(2), 2)
	spans(t, m, s, bold(0, 1), bold(2, 3))
	s.Insert(id(9), id(2))
	spans(t, m, s, bold(0, 1), bold(2, 4))
	over(t, m, s, id(9), bold(2, 3))
	over(t, m, s, id(2))
	over(t, m, s, id(4))
}

// P11.3, the third example, and ends that are no elements
func TestEnds(t *testing.T) {
	s := sequence(t, 4)
	type row struct {
		from, to api.Id
		sides    int
		want     []int // the first index and the last one and 1
	}
	for _, r := range []row{
		{id(3), id(1), 2, nil}, {id(3), id(1), 0, nil}, {id(3), id(1), 1, nil}, {id(3), id(1), 3, nil}, {id(2), id(1), 2, nil},
		{id(4), zero, 0, []int{3, 4}}, {id(4), zero, 1, nil}, {id(4), zero, 2, []int{3, 4}}, {id(4), zero, 3, nil},
		{zero, id(1), 0, nil}, {zero, id(1), 1, nil}, {zero, id(1), 2, []int{0, 1}}, {zero, id(1), 3, []int{0, 1}},
		{zero, zero, 0, []int{0, 4}}, {zero, zero, 1, []int{0, 4}}, {zero, zero, 2, []int{0, 4}}, {zero, zero, 3, []int{0, 4}},
		{id(9), zero, 0, nil}, {zero, id(9), 2, nil}, {id(9), id(9), 2, nil}, {id(1), id(9), 2, nil}, {id(9), id(4), 2, nil}, {id(9), id(1), 1, nil},
		{api.Id{N: -1}, zero, 0, nil}, {zero, api.Id{Hash: api.Hash{3}}, 0, nil}, {api.Id{N: 1}, id(4), 3, nil},
	} {
		m := New()
		add(t, m, 1, "n", yes(), r.from, r.to, r.sides)
		var want []api.Span
		if r.want != nil {
			want = []api.Span{{From: r.want[0], To: r.want[1], Name: "n", Value: yes()}}
		}
		spans(t, m, s, want...)
		holds(t, m, s)
	}
	m := New()
	add(t, m, 1, "n", yes(), id(4), zero, 0)
	s.Insert(id(5), id(4))
	spans(t, m, s, api.Span{From: 3, To: 5, Name: "n", Value: yes()})
	add(t, m, 2, "n", whole(1), id(6), id(6), 2)
	spans(t, m, s, api.Span{From: 3, To: 5, Name: "n", Value: yes()})
	s.Insert(id(6), id(4)) // a mark of one that was no element covers it as soon as it is one
	spans(t, m, s, api.Span{From: 3, To: 4, Name: "n", Value: yes()}, api.Span{From: 4, To: 5, Name: "n", Value: whole(1)}, api.Span{From: 5, To: 6, Name: "n", Value: yes()})
}

// P11.1, P2: the first error that applies; what is refused changes nothing
func TestRefused(t *testing.T) {
	s, m := sequence(t, 3), New()
	add(t, m, 1, "a", yes(), zero, zero, 0)
	add(t, m, 2, "b", yes(), id(2), zero, 0)
	want := m.Spans(s)
	long := strings.Repeat("k", api.MaxKey+1)
	for _, g := range []struct {
		id    api.Id
		name  string
		v     api.Value
		sides int
		want  api.Errno
	}{
		{zero, "", api.Value{Kind: 99}, 0, api.ErrRange}, {id(0), "a", yes(), 0, api.ErrRange}, {id(-1), "a", yes(), 0, api.ErrRange}, {id(math.MinInt), "a", yes(), 3, api.ErrRange},
		{id(1), "", yes(), -1, api.ErrRange}, {id(1), "a", yes(), 4, api.ErrRange}, {id(9), "a", yes(), math.MinInt, api.ErrRange}, {id(9), "a", yes(), math.MaxInt, api.ErrRange}, {id(9), "", whole(0), 5, api.ErrRange},
		{id(1), "a", yes(), 0, api.ErrKnown}, {id(2), "", api.Value{Kind: api.Map}, 3, api.ErrKnown}, {id(2), "zz", yes(), 3, api.ErrKnown},
		{id(9), "", yes(), 0, api.ErrField}, {id(9), "a\n", yes(), 0, api.ErrField}, {id(9), "\xff", yes(), 0, api.ErrField}, {id(9), "\x7f", yes(), 0, api.ErrField}, {id(9), long, api.Value{Kind: 99}, 0, api.ErrField},
		{id(9), "a", api.Value{Kind: 12}, 0, api.ErrValue}, {id(9), "a", api.Value{Kind: 255}, 0, api.ErrValue}, {id(9), "a", api.Value{N: 1}, 0, api.ErrValue}, {id(9), "a", api.Value{Kind: api.Bool, N: 2}, 0, api.ErrValue},
		{id(9), "a", float(math.NaN()), 0, api.ErrValue}, {id(9), "a", float(math.Copysign(0, -1)), 0, api.ErrValue}, {id(9), "a", text("\xff"), 0, api.ErrValue}, {id(9), "a", text(strings.Repeat("x", api.MaxText+1)), 0, api.ErrValue},
		{id(9), "a", api.Value{Kind: api.Map}, 0, api.ErrValue}, {id(9), "a", api.Value{Kind: api.List}, 0, api.ErrValue}, {id(9), "a", api.Value{Kind: api.String}, 0, api.ErrValue}, {id(9), "a", api.Value{Kind: api.Outline}, 0, api.ErrValue},
	} {
		if why := m.Add(g.id, g.name, g.v, zero, zero, g.sides); why != g.want {
			t.Errorf("Add(%v, %q, %v, %d) = %d, not %d", g.id.N, g.name, g.v, g.sides, why, g.want)
		}
	}
	for of, want := range map[api.Id]api.Errno{zero: api.ErrNone, id(0): api.ErrNone, id(9): api.ErrNone, id(3): api.ErrNone, {N: 2}: api.ErrNone, id(1): api.ErrRange} {
		if why := m.Undo(of); why != want {
			t.Errorf("Undo(%v) = %d, not %d", of.N, why, want)
		}
	}
	if m.Len() != 2 || !slices.Equal(m.Spans(s), want) || m.Undo(id(2)) != api.OK || m.Undo(id(2)) != api.ErrNone || m.Undo(id(1)) != api.OK || m.Undo(id(1)) != api.ErrNone || m.Len() != 0 {
		t.Error("what was refused changed something")
	}
}

// P11.1: the greatest name, all scalars, any Id with an N above 0, any from and to
func TestTaken(t *testing.T) {
	s, m := sequence(t, 3), New()
	values := []api.Value{yes(), {Kind: api.Bool}, whole(math.MinInt64), float(1.5), text(""), text("a\nb"), {Kind: api.Bytes, S: "\xff"}, {Kind: api.Time, N: api.MaxTime}, {Kind: api.Counter, N: -3}, {}}
	name := strings.Repeat("k", api.MaxKey)
	for n, v := range values {
		add(t, m, n+1, name, v, zero, zero, n%4)
		want := []api.Span{{From: 0, To: 3, Name: name, Value: v}}
		if v.Kind == api.Null {
			want = nil
		}
		spans(t, m, s, want...)
	}
	for _, far := range []api.Id{{N: 1}, {N: math.MaxInt}, {Hash: api.Hash{31: 255}, N: 1}} {
		if m.Add(far, "x", yes(), api.Id{N: math.MinInt}, api.Id{N: math.MaxInt}, 3) != api.OK || m.Add(far, "x", yes(), zero, zero, 3) != api.ErrKnown {
			t.Errorf("Add of %v", far)
		}
	}
	if m.Len() != len(values)+3 {
		t.Errorf("Len = %d", m.Len())
	}
}

// P11.2: an element that is hidden has marks, too, and no index of its own; one that is none has none
func TestOver(t *testing.T) {
	s, m := sequence(t, 5), New()
	add(t, m, 1, "b", yes(), id(2), id(4), 2)
	add(t, m, 2, "a", whole(1), id(3), zero, 0)
	add(t, m, 3, "c", api.Value{}, zero, zero, 0)
	add(t, m, 4, "B", text("x"), id(3), id(3), 2)
	s.Show(id(3), false)
	s.Show(id(5), false)
	over(t, m, s, id(1))
	over(t, m, s, id(2), api.Span{From: 1, To: 2, Name: "b", Value: yes()})
	over(t, m, s, id(3), api.Span{From: 2, To: 2, Name: "B", Value: text("x")}, api.Span{From: 2, To: 2, Name: "a", Value: whole(1)}, api.Span{From: 2, To: 2, Name: "b", Value: yes()})
	over(t, m, s, id(4), api.Span{From: 2, To: 3, Name: "a", Value: whole(1)}, api.Span{From: 2, To: 3, Name: "b", Value: yes()})
	over(t, m, s, id(5), api.Span{From: 3, To: 3, Name: "a", Value: whole(1)})
	spans(t, m, s, api.Span{From: 1, To: 3, Name: "b", Value: yes()}, api.Span{From: 2, To: 3, Name: "a", Value: whole(1)})
	for _, none := range []api.Id{zero, id(0), id(6), {N: 1}, id(-1)} {
		over(t, m, s, none)
	}
}

// P11.3: neighbours with the same value are one run, whichever marks they are of; others are not; the order of spans
func TestRuns(t *testing.T) {
	s, m := sequence(t, 6), New()
	add(t, m, 1, "a", float(1), id(1), id(3), 0)
	add(t, m, 2, "a", float(1), id(3), id(5), 0)
	add(t, m, 3, "a", whole(1), id(5), zero, 0)
	spans(t, m, s, api.Span{From: 0, To: 4, Name: "a", Value: float(1)}, api.Span{From: 4, To: 6, Name: "a", Value: whole(1)})
	s.Show(id(3), false)
	s.Show(id(4), false)
	spans(t, m, s, api.Span{From: 0, To: 2, Name: "a", Value: float(1)}, api.Span{From: 2, To: 4, Name: "a", Value: whole(1)})
	add(t, m, 4, "b", yes(), zero, id(2), 2)
	add(t, m, 5, "B", yes(), zero, id(2), 2)
	add(t, m, 6, "0", yes(), zero, zero, 0)
	add(t, m, 7, "c", yes(), zero, id(1), 2)
	add(t, m, 8, "c", yes(), id(6), zero, 0)
	add(t, m, 9, "d", yes(), id(3), id(5), 0) // hidden ones alone
	spans(t, m, s,
		api.Span{From: 0, To: 1, Name: "c", Value: yes()},
		api.Span{From: 0, To: 2, Name: "B", Value: yes()}, api.Span{From: 0, To: 2, Name: "a", Value: float(1)}, api.Span{From: 0, To: 2, Name: "b", Value: yes()},
		api.Span{From: 0, To: 4, Name: "0", Value: yes()},
		api.Span{From: 2, To: 4, Name: "a", Value: whole(1)},
		api.Span{From: 3, To: 4, Name: "c", Value: yes()})
}

// P1, P11.4
func TestNil(t *testing.T) {
	var no *Marks
	s, m := sequence(t, 2), New()
	if no.Fork() != nil || no.Add(id(1), "a", yes(), zero, zero, 0) != api.ErrNil || no.Add(zero, "", api.Value{Kind: 99}, zero, zero, 9) != api.ErrNil || no.Undo(id(1)) != api.ErrNil || no.Len() != 0 {
		t.Error("nil Marks have something")
	}
	spans(t, no, s)
	spans(t, no, nil)
	over(t, no, s, id(1))
	over(t, no, nil, id(1))
	spans(t, m, s)
	over(t, m, s, id(1))
	add(t, m, 1, "a", yes(), zero, zero, 0)
	add(t, m, 2, "b", yes(), id(1), id(2), 2)
	spans(t, m, nil)
	over(t, m, nil, id(1))
	over(t, m, nil, zero)
	spans(t, m, seq.New())
	over(t, m, seq.New(), zero)
}

// P3, P5: answers share no memory with the marks; what is done to a Fork the other one does not know
func TestMemory(t *testing.T) {
	s := sequence(t, 3)
	for many := range 9 {
		m := New()
		for n := range many {
			add(t, m, n+1, fmt.Sprint(n), yes(), zero, zero, 0)
		}
		want := m.Spans(s)
		for _, l := range [][]api.Span{m.Spans(s), m.Over(s, id(1)), m.Spans(s), m.Over(s, id(1))} {
			if len(l) != many {
				t.Fatalf("%v", l)
			}
			clear(l[:cap(l)])
		}
		forks := []*Marks{m, m.Fork(), m.Fork(), m.Fork().Fork()}
		for i, f := range forks {
			add(t, f, 100, "z", whole(int64(i)), zero, zero, 0)
			add(t, f, 200+i, "y", whole(int64(i)), zero, zero, 0)
		}
		for i, f := range forks {
			over := api.Span{From: 0, To: 3, Name: "y", Value: whole(int64(i))}
			spans(t, f, s, append(slices.Clip(want), over, api.Span{From: 0, To: 3, Name: "z", Value: whole(int64(i))})...)
			if f.Undo(id(200+i)) != api.OK || f.Undo(id(100)) != api.OK {
				t.Fatal("Undo")
			}
		}
		for i, f := range forks {
			if i%2 == 1 && many > 0 {
				f.Undo(id(many))
				add(t, f, 300, "z", yes(), zero, zero, 0)
			}
		}
		for i, f := range forks {
			l := want
			if i%2 == 1 && many > 0 {
				l = append(slices.Clip(want[:many-1]), api.Span{From: 0, To: 3, Name: "z", Value: yes()})
			}
			spans(t, f, s, l...)
			if f.Len() != many {
				t.Errorf("Len = %d", f.Len())
			}
		}
	}
}

// model is marks as they were added.
type model []mark

// covers is the document's definition, by the places in the list of all elements.
func (k mark) covers(ids []api.Id, e int) bool {
	from, to := slices.Index(ids, k.from), slices.Index(ids, k.to)
	begins := k.from == zero || from >= 0 && (from < e || from == e && k.sides&1 == 0)
	ends := k.to == zero || to >= 0 && (to > e || to == e && k.sides&2 != 0)
	return begins && ends
}

// holding is what holds for an element, by name.
func (m model) holding(ids []api.Id, e int) map[string]api.Value {
	l := map[string]api.Value{}
	for _, k := range m {
		if k.covers(ids, e) {
			l[k.name] = k.value
		}
	}
	for name, v := range l {
		if v.Kind == api.Null {
			delete(l, name)
		}
	}
	return l
}

func (m model) over(s *seq.Seq, of api.Id) []api.Span {
	ids, live := s.Ids(), s.Live()
	from := s.Index(of)
	to := from
	if slices.Contains(live, of) {
		to++
	}
	var l []api.Span
	for name, v := range m.holding(ids, slices.Index(ids, of)) {
		l = append(l, api.Span{From: from, To: to, Name: name, Value: v})
	}
	slices.SortFunc(l, func(a, b api.Span) int { return strings.Compare(a.Name, b.Name) })
	return l
}

func (m model) spans(s *seq.Seq) []api.Span {
	ids := s.Ids()
	var l []api.Span
	open := map[string]int{} // where a run that still goes on stands in the list
	for index, of := range s.Live() {
		held := m.holding(ids, slices.Index(ids, of))
		for name := range open {
			if _, ok := held[name]; !ok {
				delete(open, name)
			}
		}
		for name, v := range held {
			if at, ok := open[name]; ok && l[at].Value == v {
				l[at].To = index + 1
				continue
			}
			open[name] = len(l)
			l = append(l, api.Span{From: index, To: index + 1, Name: name, Value: v})
		}
	}
	slices.SortFunc(l, func(a, b api.Span) int {
		if a.From != b.From {
			return a.From - b.From
		}
		if a.To != b.To {
			return a.To - b.To
		}
		return strings.Compare(a.Name, b.Name)
	})
	return l
}

// holds asks P11.6: of each shown element its Over are the spans that have its index.
func holds(t *testing.T, m *Marks, s *seq.Seq) {
	t.Helper()
	all := m.Spans(s)
	for index, of := range s.Live() {
		var want []api.Span
		for _, p := range all {
			if p.From <= index && index < p.To {
				p.From, p.To = index, index+1
				want = append(want, p)
			}
		}
		slices.SortFunc(want, func(a, b api.Span) int { return strings.Compare(a.Name, b.Name) })
		over(t, m, s, of, want...)
	}
}

func tells(t *testing.T, m *Marks, want model, s *seq.Seq) {
	t.Helper()
	if m.Len() != len(want) {
		t.Fatalf("Len = %d, not %d", m.Len(), len(want))
	}
	if got, want := m.Spans(s), want.spans(s); !slices.Equal(got, want) {
		t.Fatalf("Spans = %v, not %v", got, want)
	}
	for _, of := range s.Ids() {
		if got, want := m.Over(s, of), want.over(s, of); !slices.Equal(got, want) {
			t.Fatalf("Over(%d) = %v, not %v", of.N, got, want)
		}
	}
}

// script is marks, their model, and the sequence that they are asked of.
type script struct {
	m    *Marks
	want model
	s    *seq.Seq
	put  int
}

func (x *script) fork() *script {
	return &script{x.m.Fork(), slices.Clone(x.want), x.s.Fork(), x.put}
}

func (x *script) element(r *rand.Rand) api.Id {
	return []api.Id{zero, id(r.Intn(x.put + 1)), id(r.Intn(x.put + 2)), id(1 + r.Intn(max(1, x.put)))}[r.Intn(4)]
}

func (x *script) step(t *testing.T, r *rand.Rand) {
	t.Helper()
	switch r.Intn(8) {
	case 0, 1:
		if x.s.Insert(id(x.put+1), x.element(r)) == api.OK {
			x.put++
		}
	case 2:
		x.s.Show(x.element(r), r.Intn(2) == 0)
	case 3:
		x.undo(t, r)
	default:
		x.add(t, r)
	}
}

func (x *script) add(t *testing.T, r *rand.Rand) {
	t.Helper()
	values := []api.Value{{}, yes(), whole(1), whole(2), float(1)}
	k := mark{id: id(1 + r.Intn(60)), name: string(rune('a' + r.Intn(3))), value: values[r.Intn(len(values))], from: x.element(r), to: x.element(r), sides: r.Intn(4)}
	want := api.OK
	for _, other := range x.want {
		if other.id == k.id {
			want = api.ErrKnown
		}
	}
	if why := x.m.Add(k.id, k.name, k.value, k.from, k.to, k.sides); why != want {
		t.Fatalf("Add: %d, not %d", why, want)
	}
	if want == api.OK {
		x.want = append(x.want, k)
	}
}

func (x *script) undo(t *testing.T, r *rand.Rand) {
	t.Helper()
	last := len(x.want) - 1
	of, want := id(1+r.Intn(60)), api.ErrNone
	for i, k := range x.want {
		if k.id == of {
			want = api.ErrRange
		}
		if i == last && r.Intn(2) == 0 {
			of = k.id
		}
		if i == last && k.id == of {
			want = api.OK
		}
	}
	if why := x.m.Undo(of); why != want {
		t.Fatalf("Undo: %d, not %d", why, want)
	}
	if want == api.OK {
		x.want = slices.Clip(x.want[:last])
	}
}

// P11.1 to P11.6, P5: scripts by chance, held against the document's definitions; the sequence is not changed
func TestByDefinition(t *testing.T) {
	for seed := range int64(300) {
		r := rand.New(rand.NewSource(seed))
		all := []*script{{m: New(), s: seq.New()}}
		for range 100 {
			x := all[r.Intn(len(all))]
			x.step(t, r)
			ids, live := x.s.Ids(), x.s.Live()
			tells(t, x.m, x.want, x.s)
			if !slices.Equal(x.s.Ids(), ids) || !slices.Equal(x.s.Live(), live) {
				t.Fatal("the sequence was changed")
			}
			if r.Intn(30) == 0 {
				all = append(all, x.fork())
			}
		}
		for _, x := range all {
			tells(t, x.m, x.want, x.s)
			holds(t, x.m, x.s)
			nullOverAll(t, x)
			for i, k := range slices.Backward(x.want) {
				if x.m.Undo(k.id) != api.OK {
					t.Fatal("Undo")
				}
				tells(t, x.m, x.want[:i], x.s)
			}
		}
	}
}

// nullOverAll asks P11.8 and P11.5: a Null over all leaves none of its name, and all of the others; undone it is as it was.
func nullOverAll(t *testing.T, x *script) {
	t.Helper()
	was := x.m.Spans(x.s)
	want := slices.DeleteFunc(slices.Clone(was), func(p api.Span) bool { return p.Name == "b" })
	add(t, x.m, 1000, "b", api.Value{}, zero, zero, 0)
	spans(t, x.m, x.s, want...)
	if x.m.Undo(id(1000)) != api.OK {
		t.Fatal("Undo")
	}
	spans(t, x.m, x.s, was...)
}

// P11.7: what is put between two elements that a mark covers is covered
func TestGrows(t *testing.T) {
	for seed := range int64(200) {
		r := rand.New(rand.NewSource(seed))
		s, m := sequence(t, 8), New()
		add(t, m, 1, "a", yes(), id(r.Intn(10)), id(r.Intn(10)), r.Intn(4))
		for n := range 20 {
			ids := s.Ids()
			at := r.Intn(len(ids) - 1)
			between := len(m.Over(s, ids[at])) > 0 && len(m.Over(s, ids[at+1])) > 0
			s.Insert(id(100+n), ids[at])
			if between && len(m.Over(s, id(100+n))) == 0 {
				t.Fatalf("what is put behind %v is not covered", ids[at])
			}
		}
	}
}

// P6: many marks, of one name and of many, over a long sequence
func TestMany(t *testing.T) {
	const n = 1 << 15
	s := sequence(t, n)
	one, many := New(), New()
	for i := range n {
		add(t, one, i+1, "a", whole(int64(i)), id(i/2+1), id(n-i/2), 2)
		add(t, many, i+1, fmt.Sprint(i), yes(), id(i+1), zero, 0)
	}
	l := one.Spans(s)
	if len(l) == 0 || l[0] != (api.Span{From: 0, To: 1, Name: "a", Value: whole(1)}) || l[len(l)-1] != (api.Span{From: n - 1, To: n, Name: "a", Value: whole(1)}) {
		t.Errorf("%d spans", len(l))
	}
	for i, p := range many.Spans(s) {
		if p != (api.Span{From: i, To: n, Name: fmt.Sprint(i), Value: yes()}) {
			t.Fatalf("%v", p)
		}
	}
	if l := many.Over(s, id(n)); len(l) != n || l[1].Name != "1" {
		t.Error("Over")
	}
	f := one.Fork()
	for i := range n {
		if one.Undo(id(n-i)) != api.OK {
			t.Fatal("Undo")
		}
	}
	spans(t, one, s)
	if !reflect.DeepEqual(f.Spans(s), l) {
		t.Error("a Fork was changed")
	}
}
