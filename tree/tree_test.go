package tree

import (
	"bytes"
	"maps"
	"math"
	"math/rand"
	"reflect"
	"slices"
	"strings"
	"testing"

	"estuary/api"
)

var top = api.Id{}

func id(n int) api.Id { return api.Id{Hash: api.Hash{7}, N: n} }

// done asks that a step was done, and answers its Back.
func done(t *testing.T) func(b *Back, why api.Errno) *Back {
	return func(b *Back, why api.Errno) *Back {
		t.Helper()
		if why != api.OK || b == nil {
			t.Fatalf("refused: %d", why)
		}
		return b
	}
}

func refused(t *testing.T, want api.Errno) func(b *Back, why api.Errno) {
	return func(b *Back, why api.Errno) {
		t.Helper()
		if why != want || b != nil {
			t.Errorf("%v, %d, not %d", b, why, want)
		}
	}
}

func walks(t *testing.T, x *Tree, want ...api.Id) {
	t.Helper()
	if got := x.Walk(); !slices.Equal(got, want) {
		t.Errorf("Walk = %v, not %v", got, want)
	}
}

// spot is where a model's node is.
type spot struct {
	under  api.Id
	key    string
	pruned bool
}

type model map[api.Id]spot

// lower is the order of kids.
func (m model) lower(a, b api.Id) bool {
	if m[a].key != m[b].key {
		return m[a].key < m[b].key
	}
	if a.Hash != b.Hash {
		return bytes.Compare(a.Hash[:], b.Hash[:]) < 0
	}
	return a.N < b.N
}

// kids are found by looking at all, and set in order one by one.
func (m model) kids(id api.Id) []api.Id {
	var l []api.Id
	for kid, s := range m {
		if s.pruned || s.under != id {
			continue
		}
		at := 0
		for at < len(l) && m.lower(l[at], kid) {
			at++
		}
		l = slices.Insert(l, at, kid)
	}
	return l
}

func (m model) liesUnder(id, other api.Id) bool {
	s, ok := m[id]
	return ok && !s.pruned && (s.under == other || m.liesUnder(s.under, other))
}

func (m model) deep(id api.Id) int {
	if _, ok := m[id]; !ok {
		return -1
	}
	n := 0
	for other := range m {
		if m.liesUnder(id, other) {
			n++
		}
	}
	return n
}

func (m model) lives(id api.Id) bool {
	s, ok := m[id]
	return ok && !s.pruned && (s.under == top || m.lives(s.under))
}

func (m model) walk(id api.Id) []api.Id {
	var l []api.Id
	for _, kid := range m.kids(id) {
		l = append(append(l, kid), m.walk(kid)...)
	}
	return l
}

func (m model) with(id api.Id, s spot) model {
	m = maps.Clone(m)
	m[id] = s
	return m
}

func (m model) has(id api.Id) bool {
	_, ok := m[id]
	return ok
}

func (m model) grow(id, under api.Id, key string) (model, api.Errno) {
	switch {
	case id == top:
		return m, api.ErrRange
	case m.has(id):
		return m, api.ErrKnown
	case under != top && !m.has(under):
		return m, api.ErrNone
	}
	return m.with(id, spot{under: under, key: key}), api.OK
}

func (m model) move(id, under api.Id, key string) (model, api.Errno) {
	switch {
	case !m.has(id) || under != top && !m.has(under):
		return m, api.ErrNone
	case under == id || m.liesUnder(under, id):
		return m, api.ErrRing
	}
	return m.with(id, spot{under: under, key: key}), api.OK
}

func (m model) prune(id api.Id) (model, api.Errno) {
	if !m.has(id) || m[id].pruned {
		return m, api.ErrNone
	}
	return m.with(id, spot{pruned: true}), api.OK
}

// tells holds all that a tree tells against a model, and asks for what follows (P10.5, P10.6).
func tells(t *testing.T, x *Tree, m model) {
	t.Helper()
	walk, lost, pruned := x.Walk(), 0, 0
	kids := x.Kids(top)
	if !slices.Equal(walk, m.walk(top)) || !slices.Equal(kids, m.kids(top)) || x.Len() != len(m) {
		t.Fatalf("Walk %v, Kids %v, Len %d of %v", walk, kids, x.Len(), m)
	}
	for id, s := range m {
		under, key, ok := x.Under(id)
		if ok == s.pruned || under != s.under || key != s.key || x.Live(id) != m.lives(id) || x.Deep(id) != m.deep(id) || !slices.Equal(x.Kids(id), m.kids(id)) {
			t.Fatalf("%v: Under %v %q %v, Live %v, Deep %d, Kids %v; of %v", id, under, key, ok, x.Live(id), x.Deep(id), x.Kids(id), m)
		}
		kids = append(kids, x.Kids(id)...)
		at := slices.Index(walk, id)
		if x.Live(id) != (at >= 0) || at >= 0 && slices.Contains(walk[:at], id) || at >= 0 && under != top && !slices.Contains(walk[:at], under) {
			t.Fatalf("%v in Walk", id)
		}
		if !x.Live(id) {
			lost++
		}
		if s.pruned {
			pruned++
		}
	}
	if len(walk)+lost != x.Len() || len(kids)+pruned != x.Len() {
		t.Fatalf("%d walked, %d lost, %d kids, %d pruned; %d in all", len(walk), lost, len(kids), pruned, x.Len())
	}
	slices.SortFunc(kids, compare)
	if len(slices.Compact(kids)) != x.Len()-pruned {
		t.Fatal("a node is under two")
	}
	kept(t, x)
}

// kept asks that nothing is kept of rows that are empty.
func kept(t *testing.T, x *Tree) {
	t.Helper()
	for id, row := range x.rows {
		if len(row) == 0 {
			t.Fatalf("%v has an empty row", id)
		}
	}
}

// lacks asks for what a tree tells of an Id that is no node.
func lacks(t *testing.T, x *Tree, id api.Id) {
	t.Helper()
	under, key, ok := x.Under(id)
	if under != top || key != "" || ok || x.Live(id) || x.Deep(id) != -1 || id != top && len(x.Kids(id)) > 0 {
		t.Errorf("%v: Under %v %q %v, Live %v, Deep %d, Kids %v", id, under, key, ok, x.Live(id), x.Deep(id), x.Kids(id))
	}
}

// P10.1 to P10.4, the three examples
func TestExamples(t *testing.T) {
	a, b, c := id(1), id(2), id(3)
	x := New()
	tells(t, x, nil)
	done(t)(x.Grow(a, top, "k"))
	done(t)(x.Grow(b, a, "k"))
	done(t)(x.Grow(c, top, "k"))
	walks(t, x, a, b, c)
	if got := x.Kids(top); !slices.Equal(got, []api.Id{a, c}) || x.Deep(b) != 1 {
		t.Errorf("Kids = %v, Deep = %d", got, x.Deep(b))
	}
	refused(t, api.ErrRing)(x.Move(a, b, "k"))
	refused(t, api.ErrRing)(x.Move(a, a, "k"))
	done(t)(x.Move(c, b, "j"))
	walks(t, x, a, b, c)
	if x.Deep(c) != 2 {
		t.Errorf("Deep = %d", x.Deep(c))
	}

	done(t)(x.Prune(a))
	walks(t, x)
	under, _, ok := x.Under(b)
	if _, _, pruned := x.Under(a); x.Live(c) || pruned || under != a || !ok || !slices.Equal(x.Kids(a), []api.Id{b}) {
		t.Error("a is pruned")
	}
	done(t)(x.Move(b, top, "m"))
	walks(t, x, b, c)
	refused(t, api.ErrNone)(x.Prune(a))
	last := done(t)(x.Move(a, c, "k"))
	walks(t, x, b, c, a)
	if x.Undo(last) != api.OK {
		t.Error("Undo")
	}
	walks(t, x, b, c)

	refused(t, api.ErrKnown)(x.Grow(a, top, "k"))
	refused(t, api.ErrRange)(x.Grow(top, top, "k"))
	if x.Deep(id(9)) != -1 {
		t.Error("Deep of none")
	}
}

// P10.2, P10.8, P2: the first error that applies; what is refused changes nothing and is no step
func TestRefused(t *testing.T) {
	a, b, c, d := id(1), id(2), id(3), id(4)
	x, m := New(), model{a: {key: "k"}, b: {under: a, key: "k"}, c: {under: b, key: "k"}, d: {pruned: true}}
	done(t)(x.Grow(a, top, "k"))
	done(t)(x.Grow(b, a, "k"))
	done(t)(x.Grow(c, b, "k"))
	done(t)(x.Grow(d, c, "k"))
	last := done(t)(x.Prune(d))
	for _, g := range []struct {
		id, under api.Id
		want      api.Errno
	}{
		{top, id(9), api.ErrRange}, {top, top, api.ErrRange}, {top, a, api.ErrRange},
		{a, id(9), api.ErrKnown}, {d, top, api.ErrKnown}, {c, c, api.ErrKnown},
		{id(9), id(9), api.ErrNone}, {id(9), id(8), api.ErrNone}, {id(9), api.Id{N: 1}, api.ErrNone}, {id(9), id(0), api.ErrNone},
	} {
		refused(t, g.want)(x.Grow(g.id, g.under, "k"))
		tells(t, x, m)
	}
	for _, g := range []struct {
		id, under api.Id
		want      api.Errno
	}{
		{top, top, api.ErrNone}, {top, a, api.ErrNone}, {id(9), top, api.ErrNone}, {id(9), id(9), api.ErrNone}, {a, id(9), api.ErrNone}, {d, id(0), api.ErrNone},
		{a, a, api.ErrRing}, {a, b, api.ErrRing}, {a, c, api.ErrRing}, {b, c, api.ErrRing}, {d, d, api.ErrRing},
	} {
		refused(t, g.want)(x.Move(g.id, g.under, "j"))
		tells(t, x, m)
	}
	for _, none := range []api.Id{top, d, id(9), id(0), {N: 1}} {
		refused(t, api.ErrNone)(x.Prune(none))
		tells(t, x, m)
	}
	for _, none := range []api.Id{top, id(9), id(0), {N: 1}} {
		lacks(t, x, none)
	}
	if x.Undo(last) != api.OK {
		t.Error("what was refused counts as a step")
	}
}

// P10.2: a node lies under itself by way of pruned ones no more than by others
func TestRingUnderPruned(t *testing.T) {
	a, b, c, d := id(1), id(2), id(3), id(4)
	x := New()
	done(t)(x.Grow(a, top, "k"))
	done(t)(x.Grow(b, a, "k"))
	done(t)(x.Grow(c, b, "k"))
	done(t)(x.Grow(d, c, "k"))
	done(t)(x.Prune(b))
	refused(t, api.ErrRing)(x.Move(b, d, "k"))
	refused(t, api.ErrRing)(x.Move(b, b, "k"))
	refused(t, api.ErrRing)(x.Move(c, d, "k"))
	tells(t, x, model{a: {key: "k"}, b: {pruned: true}, c: {under: b, key: "k"}, d: {under: c, key: "k"}})
	done(t)(x.Move(a, d, "i"))
	tells(t, x, model{a: {under: d, key: "i"}, b: {pruned: true}, c: {under: b, key: "k"}, d: {under: c, key: "k"}})
	refused(t, api.ErrRing)(x.Move(b, a, "k"))
	done(t)(x.Grow(id(5), a, "h"))
	if x.Live(id(5)) || x.Deep(id(5)) != 4 || x.Deep(b) != 0 {
		t.Errorf("Deep %d and %d", x.Deep(id(5)), x.Deep(b))
	}
	done(t)(x.Move(b, top, "g"))
	walks(t, x, b, c, d, a, id(5))
}

// P10.4: kids by the bytes of their positions, then by Hash, then by N
func TestKids(t *testing.T) {
	want := []struct {
		id  api.Id
		key string
	}{
		{id(9), ""}, {id(1), "\x00"}, {id(8), "B"}, {id(7), "a"}, {id(6), "a\x00"}, {id(5), "aa"},
		{api.Id{N: math.MinInt}, "b"}, {api.Id{N: -1}, "b"}, {api.Id{N: 1}, "b"}, {api.Id{N: math.MaxInt}, "b"},
		{api.Id{Hash: api.Hash{31: 1}, N: -5}, "b"}, {api.Id{Hash: api.Hash{1}}, "b"}, {api.Id{Hash: api.Hash{1}, N: 1}, "b"}, {api.Id{Hash: api.Hash{1, 1}, N: 0}, "b"}, {api.Id{Hash: api.Hash{200}, N: -9}, "b"},
		{id(4), "c"}, {id(3), "é"}, {id(2), "\xff"}, {id(10), strings.Repeat("\xff", 2*api.MaxKey)},
	}
	r := rand.New(rand.NewSource(3))
	for _, under := range []api.Id{top, id(100)} {
		for range 20 {
			x := New()
			if under != top {
				done(t)(x.Grow(under, top, "k"))
			}
			var l []api.Id
			for _, k := range want {
				l = append(l, k.id)
			}
			for _, i := range r.Perm(len(want)) {
				done(t)(x.Grow(want[i].id, under, want[i].key))
			}
			if got := x.Kids(under); !slices.Equal(got, l) {
				t.Fatalf("Kids = %v, not %v", got, l)
			}
			for _, k := range want {
				if u, key, ok := x.Under(k.id); u != under || key != k.key || !ok {
					t.Fatalf("Under(%v) = %v, %q, %v", k.id, u, key, ok)
				}
			}
		}
	}
}

// P10.3: only the last step can be undone, and once; a Move to where it is is a step
func TestOnlyTheLastStep(t *testing.T) {
	a, b := id(1), id(2)
	x := New()
	steps := []*Back{
		done(t)(x.Grow(a, top, "k")), done(t)(x.Move(a, top, "k")), done(t)(x.Grow(b, a, "k")), done(t)(x.Prune(a)),
		done(t)(x.Move(a, top, "j")), done(t)(x.Prune(b)), done(t)(x.Move(b, a, "k")), done(t)(x.Move(b, a, "k")), done(t)(x.Move(b, top, "k")),
	}
	foreign := done(t)(New().Grow(a, top, "k"))
	for i := len(steps) - 1; i >= 0; i-- {
		before := tell(x)
		for j, back := range steps {
			if j != i && x.Undo(back) != api.ErrRange {
				t.Fatalf("the step %d was undone ahead of %d", j, i)
			}
		}
		if x.Undo(nil) != api.ErrRange || x.Undo(foreign) != api.ErrRange || x.Undo(&Back{}) != api.ErrRange {
			t.Fatal("a step that is none of its own was undone")
		}
		if !reflect.DeepEqual(tell(x), before) {
			t.Fatal("an Undo that was refused changed something")
		}
		if x.Undo(steps[i]) != api.OK {
			t.Fatal("Undo")
		}
	}
	tells(t, x, nil)
	if x.Undo(steps[0]) != api.ErrRange || x.Undo(nil) != api.ErrRange {
		t.Error("nothing is left to be undone")
	}
}

// told is all that a tree tells of the nodes that these tests use.
type told struct {
	Len  int
	Walk []api.Id
	Kids map[api.Id][]api.Id
	Deep map[api.Id]int
	At   map[api.Id]spot
}

func tell(x *Tree) told {
	l := told{x.Len(), x.Walk(), map[api.Id][]api.Id{top: x.Kids(top)}, map[api.Id]int{}, map[api.Id]spot{}}
	for n := range 40 {
		under, key, ok := x.Under(id(n))
		l.Kids[id(n)], l.Deep[id(n)], l.At[id(n)] = x.Kids(id(n)), x.Deep(id(n)), spot{under, key, !ok}
	}
	return l
}

// P10.8: a Move to where it is changes nothing that is told
func TestMoveToWhereItIs(t *testing.T) {
	x := New()
	done(t)(x.Grow(id(1), top, "k"))
	done(t)(x.Grow(id(2), id(1), "k"))
	before := tell(x)
	done(t)(x.Move(id(2), id(1), "k"))
	back := done(t)(x.Move(id(1), top, "k"))
	if !reflect.DeepEqual(tell(x), before) || x.Undo(back) != api.OK || !reflect.DeepEqual(tell(x), before) {
		t.Error("a Move to where it is moved something")
	}
}

// P10.1, P10.3, P5: a Back of a step ahead of the Fork is one of both; of a later one, of one alone
func TestForkAndBack(t *testing.T) {
	a, b, c := id(1), id(2), id(3)
	x := New()
	first := done(t)(x.Grow(a, top, "k"))
	second := done(t)(x.Grow(b, a, "j"))
	f := x.Fork()
	third := done(t)(f.Move(b, top, "i"))
	other := done(t)(x.Grow(c, b, "h"))
	tells(t, f, model{a: {key: "k"}, b: {key: "i"}})
	tells(t, x, model{a: {key: "k"}, b: {under: a, key: "j"}, c: {under: b, key: "h"}})
	if x.Undo(third) != api.ErrRange || f.Undo(other) != api.ErrRange || f.Undo(second) != api.ErrRange {
		t.Error("a step of one that was done of the other alone")
	}
	for _, back := range []*Back{third, second, first} {
		if f.Undo(back) != api.OK {
			t.Fatal("Undo of the Fork")
		}
	}
	tells(t, f, nil)
	tells(t, x, model{a: {key: "k"}, b: {under: a, key: "j"}, c: {under: b, key: "h"}})
	for _, back := range []*Back{other, second, first} {
		if x.Undo(back) != api.OK {
			t.Fatal("Undo")
		}
	}
	tells(t, x, nil)
}

// P1, P10.1 to P10.4
func TestNil(t *testing.T) {
	var x *Tree
	refused(t, api.ErrNil)(x.Grow(top, top, ""))
	refused(t, api.ErrNil)(x.Grow(id(1), top, "k"))
	refused(t, api.ErrNil)(x.Move(id(1), id(1), "k"))
	refused(t, api.ErrNil)(x.Prune(id(1)))
	if x.Fork() != nil || x.Undo(nil) != api.ErrNil || x.Undo(&Back{}) != api.ErrNil || x.Len() != 0 || len(x.Walk()) != 0 || len(x.Kids(top)) != 0 {
		t.Error("a nil tree has something")
	}
	lacks(t, x, id(1))
	lacks(t, x, top)
}

// P3: what is answered shares no memory with the tree
func TestMemory(t *testing.T) {
	x := New()
	m := model{}
	for n := range 9 {
		done(t)(x.Grow(id(n+1), top, "k"))
		m[id(n+1)] = spot{key: "k"}
	}
	for _, l := range [][]api.Id{x.Kids(top), x.Walk(), x.Kids(top), x.Walk()} {
		if len(l) != 9 {
			t.Fatalf("%v", l)
		}
		clear(l[:cap(l)])
	}
	tells(t, x, m)
}

// a script is a tree, its model, and what both were ahead of each step.
type script struct {
	x     *Tree
	m     model
	backs []*Back
	were  []model
}

func (s *script) fork() *script {
	return &script{s.x.Fork(), s.m, slices.Clone(s.backs), slices.Clone(s.were)}
}

// step does the same to the tree and to its model.
func (s *script) step(t *testing.T, r *rand.Rand, names int) {
	t.Helper()
	a, b, key := id(r.Intn(names)), id(r.Intn(names)), string(rune('a'+r.Intn(3)))
	for _, p := range []*api.Id{&a, &b} {
		if r.Intn(8) == 0 {
			*p = top
		}
	}
	var back *Back
	var got, want api.Errno
	next := s.m
	switch r.Intn(8) {
	case 0, 1:
		back, got = s.x.Grow(a, b, key)
		next, want = s.m.grow(a, b, key)
	case 2, 3, 4:
		back, got = s.x.Move(a, b, key)
		next, want = s.m.move(a, b, key)
	case 5:
		back, got = s.x.Prune(a)
		next, want = s.m.prune(a)
	default:
		s.undo(t, r)
		return
	}
	if got != want || (back != nil) != (got == api.OK) {
		t.Fatalf("of %v, %v: %v, %d, not %d; %v", a, b, back, got, want, s.m)
	}
	if got == api.OK {
		s.backs, s.were, s.m = append(s.backs, back), append(s.were, s.m), next
	}
}

// undo undoes the last step, or tries to undo one that is not.
func (s *script) undo(t *testing.T, r *rand.Rand) {
	t.Helper()
	last := len(s.backs) - 1
	if last < 0 {
		return
	}
	if i := r.Intn(last + 1); i != last {
		if s.x.Undo(s.backs[i]) != api.ErrRange {
			t.Fatal("a step that is not the last one was undone")
		}
		return
	}
	if s.x.Undo(s.backs[last]) != api.OK {
		t.Fatal("Undo")
	}
	s.m, s.backs, s.were = s.were[last], s.backs[:last], s.were[:last]
}

// P10.1 to P10.8, P5: scripts of steps, Undos and Forks; in the end all is undone
func TestScripts(t *testing.T) {
	for seed := range int64(300) {
		r := rand.New(rand.NewSource(seed))
		names := 3 + r.Intn(12)
		all := []*script{{x: New(), m: model{}}}
		for range 300 {
			s := all[r.Intn(len(all))]
			s.step(t, r, names)
			tells(t, s.x, s.m)
			lacks(t, s.x, id(names))
			if r.Intn(60) == 0 {
				all = append(all, s.fork())
			}
		}
		for _, s := range all {
			tells(t, s.x, s.m)
			for i, back := range slices.Backward(s.backs) {
				if s.x.Undo(back) != api.OK {
					t.Fatal("Undo")
				}
				tells(t, s.x, s.were[i])
			}
			tells(t, s.x, nil)
		}
	}
}

// P6: many kids, and many nodes in one another
func TestLarge(t *testing.T) {
	const n = 1 << 16
	wide, deep := New(), New()
	var backs []*Back
	for i := range n {
		done(t)(wide.Grow(id(n-i), top, "k"))
		under := top
		if i > 0 {
			under = id(i)
		}
		backs = append(backs, done(t)(deep.Grow(id(i+1), under, "k")))
	}
	for _, x := range []*Tree{wide, deep, deep.Fork()} {
		walk := x.Walk()
		if len(walk) != n || walk[0] != id(1) || walk[n-1] != id(n) {
			t.Fatal("Walk")
		}
	}
	if deep.Deep(id(n)) != n-1 || !deep.Live(id(n)) || len(wide.Kids(top)) != n {
		t.Error("Deep, Live, Kids")
	}
	refused(t, api.ErrRing)(deep.Move(id(1), id(n), "k"))
	for i := range n {
		done(t)(wide.Move(id(i+1), top, "j"))
	}
	for _, b := range slices.Backward(backs) {
		if deep.Undo(b) != api.OK {
			t.Fatal("Undo")
		}
	}
	tells(t, deep, nil)
}
