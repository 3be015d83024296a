package doc

import (
	"math"
	"math/rand"
	"reflect"
	"slices"
	"strings"
	"testing"

	"estuary/api"
)

var zero = api.Id{}

func id(n int) api.Id { return api.Id{Hash: api.Hash{5}, N: n} }

func all(api.Id) bool { return true }

func whole(n int64) api.Value            { return api.Value{Kind: api.Int, N: n} }
func counter(n int64) api.Value          { return api.Value{Kind: api.Counter, N: n} }
func text(s string) api.Value            { return api.Value{Kind: api.Text, S: s} }
func empty(k api.Kind) api.Value         { return api.Value{Kind: k} }
func entry(n int, v api.Value) api.Entry { return api.Entry{Id: id(n), Value: v} }

// done does ops with a seen of all, and asks that each was done.
func done(t *testing.T, d *Doc, ops ...api.Op) []*Back {
	t.Helper()
	var l []*Back
	for _, o := range ops {
		b := d.Do(o, all)
		if !b.Did() {
			t.Fatalf("the op %d of the act %d was passed over", o.Id.N, o.Act)
		}
		l = append(l, b)
	}
	return l
}

func live(t *testing.T, d *Doc, obj int, want ...int) {
	t.Helper()
	var l []api.Id
	for _, n := range want {
		l = append(l, id(n))
	}
	if got := d.Live(id(obj)); !slices.Equal(got, l) {
		t.Errorf("Live = %v, not %v", got, l)
	}
}

func lies(t *testing.T, d *Doc, p api.Place, want ...api.Entry) {
	t.Helper()
	if got := d.Entries(p); !slices.Equal(got, want) {
		t.Errorf("Entries(%v) = %v, not %v", p, got, want)
	}
	top, ok := d.Top(p)
	if ok != (len(want) > 0) || ok && top != want[len(want)-1] || !ok && top != (api.Entry{}) {
		t.Errorf("Top(%v) = %v, %v", p, top, ok)
	}
}

// undone undoes all that these are the steps of, the last one first.
func undone(t *testing.T, d *Doc, backs []*Back) {
	t.Helper()
	for _, b := range slices.Backward(backs) {
		if why := d.Undo(b); why != api.OK {
			t.Fatalf("Undo: %d", why)
		}
	}
}

// asNew asks that a document tells what a new one does.
func asNew(t *testing.T, d *Doc) {
	t.Helper()
	if d.Objects() != 1 || d.Kind(zero) != api.Map || d.Deep(zero) != 0 || d.last != nil {
		t.Error("not as new")
	}
	if !reflect.DeepEqual(d, New()) {
		t.Errorf("something is kept: %v", d)
	}
}

// P12.1 to P12.4, all examples
func TestExamples(t *testing.T) {
	d := New()
	asNew(t, d)
	at := api.Place{Obj: id(1), At: id(2)}
	backs := done(t, d,
		api.Op{Id: id(1), Act: api.Put, Key: "l", Value: empty(api.List)},
		api.Op{Id: id(2), Act: api.Insert, Obj: id(1), Value: whole(1)},
		api.Op{Id: id(3), Act: api.Insert, Obj: id(1), At: id(2), Value: whole(2)})
	live(t, d, 1, 2, 3)
	if d.Kind(id(1)) != api.List || d.Deep(id(1)) != 1 || d.Objects() != 2 {
		t.Error("Kind, Deep, Objects")
	}
	lies(t, d, at, entry(2, whole(1)))
	lies(t, d, api.Place{Key: "l"}, entry(1, empty(api.List)))

	backs = append(backs, done(t, d, api.Op{Id: id(4), Act: api.Delete, Obj: id(1), At: id(2)})...)
	live(t, d, 1, 3)
	lies(t, d, at)
	backs = append(backs, done(t, d, api.Op{Id: id(5), Act: api.Insert, Obj: id(1), At: id(2), Value: whole(3)})...)
	live(t, d, 1, 5, 3)
	backs = append(backs, done(t, d, api.Op{Id: id(6), Act: api.Put, Obj: id(1), At: id(2), Value: whole(9)})...)
	live(t, d, 1, 2, 5, 3)
	lies(t, d, at, entry(6, whole(9)))

	backs = append(backs, done(t, d, api.Op{Id: id(8), Act: api.Put, Key: "s", Value: empty(api.String)})...)
	for _, o := range []api.Op{
		{Id: id(9), Act: api.Insert, Obj: id(8), Value: text("ab")},
		{Id: id(9), Act: api.Put, Obj: id(1), Key: "a", Value: whole(1)},
		{Id: id(2), Act: api.Put, Key: "a", Value: whole(1)},
		{Id: id(0), Act: api.Put, Key: "a", Value: whole(1)},
	} {
		b := d.Do(o, all)
		if b == nil || b.Did() {
			t.Errorf("%v was done", o)
		}
		backs = append(backs, b)
	}

	backs = append(backs, done(t, d, api.Op{Id: id(7), Act: api.Put, Key: "l", Value: whole(3)})...)
	if !slices.Equal(d.Keys(zero), []string{"l", "s"}) || d.Kind(id(1)) != api.List {
		t.Error("an object that is not shown stays")
	}
	backs = append(backs, done(t, d, api.Op{Id: id(10), Act: api.Insert, Obj: id(1), At: id(3), Value: whole(4)})...)
	live(t, d, 1, 2, 5, 3, 10)
	undone(t, d, backs)
	asNew(t, d)
}

// E6, the third, fourth and fifth of DOC.md's examples: what was not seen stays
func TestSeen(t *testing.T) {
	at := api.Place{Key: "a"}
	d := New()
	d.Do(api.Op{Id: id(1), Act: api.Put, Key: "a", Value: whole(1)}, nil)
	second := d.Do(api.Op{Id: id(2), Act: api.Put, Key: "a", Value: whole(2)}, nil)
	lies(t, d, at, entry(1, whole(1)), entry(2, whole(2)))
	gone := d.Do(api.Op{Id: id(3), Act: api.Delete, Key: "a"}, func(x api.Id) bool { return x == id(1) })
	lies(t, d, at, entry(2, whole(2)))
	both := d.Do(api.Op{Id: id(4), Act: api.Delete, Key: "a"}, nil)
	lies(t, d, at, entry(2, whole(2)))
	undone(t, d, []*Back{second, gone, both})
	lies(t, d, at, entry(1, whole(1)))

	n := api.Place{Key: "n"}
	d.Do(api.Op{Id: id(5), Act: api.Put, Key: "n", Value: counter(5)}, nil)
	d.Do(api.Op{Id: id(6), Act: api.Add, Key: "n", N: 2}, all)
	d.Do(api.Op{Id: id(7), Act: api.Add, Key: "n", N: 3}, func(x api.Id) bool { return x == id(5) })
	lies(t, d, n, entry(5, counter(10)))
	d.Do(api.Op{Id: id(8), Act: api.Add, Key: "n", N: 7}, nil)
	lies(t, d, n, entry(5, counter(10)))
	d.Do(api.Op{Id: id(9), Act: api.Put, Key: "n", Value: counter(math.MaxInt64)}, nil)
	d.Do(api.Op{Id: id(10), Act: api.Put, Key: "n", Value: whole(1)}, nil)
	d.Do(api.Op{Id: id(11), Act: api.Add, Key: "n", N: 1}, func(x api.Id) bool { return x != id(5) })
	lies(t, d, n, entry(5, counter(10)), entry(9, counter(math.MinInt64)), entry(10, whole(1)))
	if !d.Do(api.Op{Id: id(12), Act: api.Put, Key: "n", Value: whole(3)}, all).Did() {
		t.Error("Put")
	}
	lies(t, d, n, entry(12, whole(3)))
}

// worldOps make objects of all kinds: a Map 2, a List 3 with the elements 4 and 5 (hidden), a String 6 with 7, an Outline 8 with the nodes 9, 10 under it, 11 pruned.
func worldOps() []api.Op {
	return []api.Op{
		{Id: id(1), Act: api.Put, Key: "a", Value: counter(1)},
		{Id: id(2), Act: api.Put, Key: "m", Value: empty(api.Map)},
		{Id: id(3), Act: api.Put, Key: "l", Value: empty(api.List)},
		{Id: id(4), Act: api.Insert, Obj: id(3), Value: whole(4)},
		{Id: id(5), Act: api.Insert, Obj: id(3), At: id(4), Value: counter(5)},
		{Id: id(15), Act: api.Delete, Obj: id(3), At: id(5)},
		{Id: id(6), Act: api.Put, Obj: id(2), Key: "s", Value: empty(api.String)},
		{Id: id(7), Act: api.Insert, Obj: id(6), Value: text("x")},
		{Id: id(8), Act: api.Put, Obj: id(2), Key: "o", Value: empty(api.Outline)},
		{Id: id(9), Act: api.Grow, Obj: id(8), Key: "k", Value: whole(9)},
		{Id: id(10), Act: api.Grow, Obj: id(8), At: id(9), Key: "k", Value: counter(10)},
		{Id: id(11), Act: api.Grow, Obj: id(8), At: id(10), Key: "k", Value: whole(11)},
		{Id: id(16), Act: api.Prune, Obj: id(8), At: id(11)},
	}
}

func world(t *testing.T) (*Doc, []*Back) {
	t.Helper()
	d := New()
	return d, done(t, d, worldOps()...)
}

// few are the Ids that these tests use, and some that nothing has.
func few(n int) []api.Id {
	l := []api.Id{zero, {N: 1}, {N: -1}, {Hash: api.Hash{6}, N: 2}}
	for i := range n {
		l = append(l, id(i))
	}
	return l
}

// snap is all that a document tells.
type snap struct {
	Objects int
	Of      map[api.Id]told
}

func snapshot(d *Doc, n int) snap {
	s, ids := snap{d.Objects(), map[api.Id]told{}}, few(n)
	for _, obj := range ids {
		s.Of[obj] = tell(d, obj, ids)
	}
	return s
}

func (m *model) snapshot(n int) snap {
	s := snap{len(m.objects), map[api.Id]told{}}
	for _, obj := range few(n) {
		s.Of[obj] = m.tell(obj)
	}
	return s
}

// passedOver are ops on the world that change nothing.
func passedOver() []api.Op {
	fresh, one, long := id(20), whole(1), strings.Repeat("k", api.MaxKey+1)
	return []api.Op{
		// acts that there are not, or that do nothing here
		{Id: fresh}, {Id: fresh, Act: 11, Key: "a", Value: one}, {Id: fresh, Act: 255, Key: "a"},
		{Id: fresh, Act: api.Grant, Who: 1, N: 1}, {Id: fresh, Act: api.Revoke, Who: 1}, {Id: fresh, Act: api.Grant, Key: "a", Value: one},
		// Ids
		{Id: zero, Act: api.Put, Key: "a", Value: one}, {Id: id(0), Act: api.Put, Key: "a", Value: one}, {Id: id(-1), Act: api.Put, Key: "a", Value: one}, {Id: id(math.MinInt), Act: api.Delete, Key: "a"},
		{Id: id(1), Act: api.Put, Key: "a", Value: one}, {Id: id(4), Act: api.Put, Key: "a", Value: one}, {Id: id(15), Act: api.Delete, Key: "a"}, {Id: id(16), Act: api.Add, Key: "a"},
		{Id: id(9), Act: api.Grow, Obj: id(8), Key: "k", Value: one}, {Id: id(4), Act: api.Insert, Obj: id(3), Value: one}, {Id: id(15), Act: api.Mark, Obj: id(3), Key: "k", Value: one},
		// objects that there are not
		{Id: fresh, Act: api.Put, Obj: id(1), Key: "a", Value: one}, {Id: fresh, Act: api.Put, Obj: id(4), Key: "a", Value: one}, {Id: fresh, Act: api.Put, Obj: fresh, Key: "a", Value: one}, {Id: fresh, Act: api.Delete, Obj: id(99), Key: "a"}, {Id: fresh, Act: api.Put, Obj: id(0), Key: "a", Value: one}, {Id: fresh, Act: api.Put, Obj: api.Id{N: 2}, Key: "a", Value: one},
		// a map's places
		{Id: fresh, Act: api.Put, Value: one}, {Id: fresh, Act: api.Put, Key: long, Value: one}, {Id: fresh, Act: api.Put, Key: "a\n", Value: one}, {Id: fresh, Act: api.Put, Key: "\xff", Value: one}, {Id: fresh, Act: api.Put, Key: "a", At: id(4), Value: one}, {Id: fresh, Act: api.Put, At: id(4), Value: one}, {Id: fresh, Act: api.Put, Key: "a", At: id(1), Value: one},
		{Id: fresh, Act: api.Delete}, {Id: fresh, Act: api.Delete, Key: long}, {Id: fresh, Act: api.Delete, Key: "a", At: id(1)}, {Id: fresh, Act: api.Delete, At: id(4)},
		{Id: fresh, Act: api.Add, N: 1}, {Id: fresh, Act: api.Add, N: 1, Key: "\x7f"}, {Id: fresh, Act: api.Add, N: 1, Key: "a", At: id(1)},
		// a sequence's places
		{Id: fresh, Act: api.Put, Obj: id(3), Key: "a", Value: one}, {Id: fresh, Act: api.Put, Obj: id(3), Value: one}, {Id: fresh, Act: api.Put, Obj: id(3), Key: "a", At: id(4), Value: one}, {Id: fresh, Act: api.Put, Obj: id(3), At: id(7), Value: one}, {Id: fresh, Act: api.Put, Obj: id(3), At: fresh, Value: one}, {Id: fresh, Act: api.Put, Obj: id(6), At: id(4), Value: text("x")},
		{Id: fresh, Act: api.Delete, Obj: id(3)}, {Id: fresh, Act: api.Delete, Obj: id(3), Key: "a", At: id(4)}, {Id: fresh, Act: api.Delete, Obj: id(3), At: id(3)},
		{Id: fresh, Act: api.Add, Obj: id(3)}, {Id: fresh, Act: api.Add, Obj: id(3), Key: "a", At: id(4)}, {Id: fresh, Act: api.Add, Obj: id(3), At: id(99)},
		// an outline's places
		{Id: fresh, Act: api.Put, Obj: id(8), Key: "k", Value: one}, {Id: fresh, Act: api.Put, Obj: id(8), Value: one}, {Id: fresh, Act: api.Put, Obj: id(8), Key: "k", At: id(9), Value: one}, {Id: fresh, Act: api.Put, Obj: id(8), At: id(8), Value: one},
		{Id: fresh, Act: api.Delete, Obj: id(8), At: id(9)}, {Id: fresh, Act: api.Delete, Obj: id(8), Key: "k"}, {Id: fresh, Act: api.Add, Obj: id(8), Key: "k", At: id(9)}, {Id: fresh, Act: api.Add, Obj: id(8)}, {Id: fresh, Act: api.Add, Obj: id(8), At: id(99)},
		// values that do not fit
		{Id: fresh, Act: api.Put, Key: "a", Value: api.Value{Kind: 12}}, {Id: fresh, Act: api.Put, Key: "a", Value: api.Value{N: 1}}, {Id: fresh, Act: api.Put, Key: "a", Value: api.Value{Kind: api.Map, N: 1}}, {Id: fresh, Act: api.Put, Key: "a", Value: text("\xff")}, {Id: fresh, Act: api.Put, Key: "a", Value: api.Value{Kind: api.Float, F: math.Inf(1)}},
		{Id: fresh, Act: api.Put, Obj: id(3), At: id(4), Value: api.Value{Kind: api.Bool, N: 2}}, {Id: fresh, Act: api.Insert, Obj: id(3), Value: api.Value{Kind: api.List, S: "a"}},
		{Id: fresh, Act: api.Put, Obj: id(6), At: id(7), Value: text("")}, {Id: fresh, Act: api.Put, Obj: id(6), At: id(7), Value: text("ab")}, {Id: fresh, Act: api.Put, Obj: id(6), At: id(7), Value: one}, {Id: fresh, Act: api.Put, Obj: id(6), At: id(7), Value: empty(api.Map)}, {Id: fresh, Act: api.Put, Obj: id(6), At: id(7), Value: api.Value{Kind: api.Bytes, S: "a"}}, {Id: fresh, Act: api.Put, Obj: id(6), At: id(7)},
		{Id: fresh, Act: api.Insert, Obj: id(6), Value: text("")}, {Id: fresh, Act: api.Insert, Obj: id(6), Value: text("ab")}, {Id: fresh, Act: api.Insert, Obj: id(6), Value: text("e\u0301")}, {Id: fresh, Act: api.Insert, Obj: id(6), Value: text("\xe2")}, {Id: fresh, Act: api.Insert, Obj: id(6), Value: empty(api.List)}, {Id: fresh, Act: api.Insert, Obj: id(6), Value: api.Value{Kind: api.Text, S: "a", N: 1}},
		{Id: fresh, Act: api.Put, Obj: id(8), At: id(9), Value: empty(api.Map)}, {Id: fresh, Act: api.Put, Obj: id(8), At: id(9), Value: api.Value{Kind: 99}}, {Id: fresh, Act: api.Grow, Obj: id(8), Key: "k", Value: empty(api.Outline)}, {Id: fresh, Act: api.Grow, Obj: id(8), Key: "k", Value: api.Value{Kind: 99}},
		// Insert
		{Id: fresh, Act: api.Insert, Value: one}, {Id: fresh, Act: api.Insert, Obj: id(2), Value: one}, {Id: fresh, Act: api.Insert, Obj: id(8), Value: one}, {Id: fresh, Act: api.Insert, Obj: id(8), At: id(9), Value: one}, {Id: fresh, Act: api.Insert, Obj: id(3), Key: "a", Value: one}, {Id: fresh, Act: api.Insert, Obj: id(3), At: fresh, Value: one}, {Id: fresh, Act: api.Insert, Obj: id(3), At: id(7), Value: one}, {Id: fresh, Act: api.Insert, Obj: id(3), At: id(3), Value: one},
		// Mark
		{Id: fresh, Act: api.Mark, Key: "k", Value: one}, {Id: fresh, Act: api.Mark, Obj: id(8), Key: "k", Value: one}, {Id: fresh, Act: api.Mark, Obj: id(2), Key: "k", Value: one}, {Id: fresh, Act: api.Mark, Obj: id(3), Value: one}, {Id: fresh, Act: api.Mark, Obj: id(3), Key: long, Value: one}, {Id: fresh, Act: api.Mark, Obj: id(3), Key: "k", At: id(7), Value: one}, {Id: fresh, Act: api.Mark, Obj: id(3), Key: "k", To: id(7), Value: one}, {Id: fresh, Act: api.Mark, Obj: id(3), Key: "k", At: id(4), To: fresh, Value: one},
		{Id: fresh, Act: api.Mark, Obj: id(3), Key: "k", Sides: 4, Value: one}, {Id: fresh, Act: api.Mark, Obj: id(3), Key: "k", Sides: -1, Value: one}, {Id: fresh, Act: api.Mark, Obj: id(3), Key: "k", Value: empty(api.Map)}, {Id: fresh, Act: api.Mark, Obj: id(6), Key: "k", Value: empty(api.String)}, {Id: fresh, Act: api.Mark, Obj: id(3), Key: "k", Value: api.Value{Kind: 99}},
		// Grow
		{Id: fresh, Act: api.Grow, Key: "k", Value: one}, {Id: fresh, Act: api.Grow, Obj: id(3), Key: "k", Value: one}, {Id: fresh, Act: api.Grow, Obj: id(3), At: id(4), Key: "k", Value: one}, {Id: fresh, Act: api.Grow, Obj: id(8), Value: one}, {Id: fresh, Act: api.Grow, Obj: id(8), Key: long, Value: one}, {Id: fresh, Act: api.Grow, Obj: id(8), At: fresh, Key: "k", Value: one}, {Id: fresh, Act: api.Grow, Obj: id(8), At: id(4), Key: "k", Value: one},
		// Move
		{Id: fresh, Act: api.Move, At: id(9), Key: "j"}, {Id: fresh, Act: api.Move, Obj: id(3), At: id(4), Key: "j"}, {Id: fresh, Act: api.Move, Obj: id(8), At: id(10)}, {Id: fresh, Act: api.Move, Obj: id(8), At: id(10), Key: "\n"}, {Id: fresh, Act: api.Move, Obj: id(8), Key: "j"}, {Id: fresh, Act: api.Move, Obj: id(8), At: id(4), Key: "j"}, {Id: fresh, Act: api.Move, Obj: id(8), At: id(10), To: id(4), Key: "j"}, {Id: fresh, Act: api.Move, Obj: id(8), At: fresh, To: id(9), Key: "j"},
		{Id: fresh, Act: api.Move, Obj: id(8), At: id(9), To: id(9), Key: "j"}, {Id: fresh, Act: api.Move, Obj: id(8), At: id(9), To: id(10), Key: "j"}, {Id: fresh, Act: api.Move, Obj: id(8), At: id(11), To: id(11), Key: "j"},
		// Prune
		{Id: fresh, Act: api.Prune, At: id(9)}, {Id: fresh, Act: api.Prune, Obj: id(3), At: id(4)}, {Id: fresh, Act: api.Prune, Obj: id(8)}, {Id: fresh, Act: api.Prune, Obj: id(8), At: id(11)}, {Id: fresh, Act: api.Prune, Obj: id(8), At: id(4)}, {Id: fresh, Act: api.Prune, Obj: id(8), At: fresh},
	}
}

// P12.2, P12.6: what is passed over is a step, and changes nothing; its Id may still be used
func TestPassedOver(t *testing.T) {
	d, backs := world(t)
	before := snapshot(d, 22)
	for i, o := range passedOver() {
		b := d.Do(o, all)
		if b == nil || b.Did() {
			t.Errorf("the op %d, %v, was done", i, o)
		}
		if !reflect.DeepEqual(snapshot(d, 22), before) {
			t.Fatalf("the op %d, %v, changed something", i, o)
		}
		if i%2 == 0 {
			backs = append(backs, b)
		} else if d.Undo(b) != api.OK {
			t.Error("a step whose op was passed over can be undone")
		}
	}
	if !reflect.DeepEqual(snapshot(d, 22), before) {
		t.Error("undone, something changed")
	}
	backs = append(backs, done(t, d, api.Op{Id: id(20), Act: api.Put, Key: "a", Value: whole(1)})...)
	undone(t, d, backs)
	asNew(t, d)
}

// P12.2: fields that an act does not use are not asked for; places that are hidden, or pruned, are places; what finds nothing to do is done
func TestDoneAllTheSame(t *testing.T) {
	fresh, one, junk := id(20), whole(1), api.Value{Kind: 99}
	for i, o := range []api.Op{
		{Id: fresh, Act: api.Put, Key: "a", Value: one, To: id(99), Sides: 9, N: 9, Who: -1, Author: -7}, {Id: fresh, Act: api.Put, Key: "a"}, {Id: fresh, Act: api.Put, Key: strings.Repeat("k", api.MaxKey), Value: one}, {Id: api.Id{N: math.MaxInt}, Act: api.Put, Key: "a", Value: one},
		{Id: fresh, Act: api.Delete, Key: "zz", Value: junk, To: id(4), N: 1}, {Id: fresh, Act: api.Delete, Obj: id(3), At: id(5)}, {Id: fresh, Act: api.Delete, Obj: id(6), At: id(7), Value: junk},
		{Id: fresh, Act: api.Add, Key: "zz", Value: junk}, {Id: fresh, Act: api.Add, Key: "m", N: 1}, {Id: fresh, Act: api.Add, Obj: id(6), At: id(7), N: 1}, {Id: fresh, Act: api.Add, Obj: id(8), At: id(10), N: 1}, {Id: fresh, Act: api.Add, Obj: id(8), At: id(11), N: 1}, {Id: fresh, Act: api.Add, Obj: id(3), At: id(5), N: 1},
		{Id: fresh, Act: api.Put, Obj: id(3), At: id(5), Value: one}, {Id: fresh, Act: api.Put, Obj: id(3), At: id(4), Value: empty(api.Outline)}, {Id: fresh, Act: api.Put, Obj: id(8), At: id(11), Value: one}, {Id: fresh, Act: api.Put, Obj: id(8), At: id(9), Value: text("")}, {Id: fresh, Act: api.Put, Obj: id(6), At: id(7), Value: text("€")},
		{Id: fresh, Act: api.Insert, Obj: id(3), At: id(5), Value: one, To: id(99), Sides: -1, N: 5}, {Id: fresh, Act: api.Insert, Obj: id(3)}, {Id: fresh, Act: api.Insert, Obj: id(3), Value: empty(api.Map)}, {Id: fresh, Act: api.Insert, Obj: id(6), At: id(7), Value: text("\n")}, {Id: fresh, Act: api.Insert, Obj: id(6), Value: text("\x00")}, {Id: fresh, Act: api.Insert, Obj: id(6), Value: text("\U0001F600")}, {Id: fresh, Act: api.Insert, Obj: id(6), Value: text("\ufffd")},
		{Id: fresh, Act: api.Mark, Obj: id(3), Key: "k", N: 1}, {Id: fresh, Act: api.Mark, Obj: id(3), Key: "k", At: id(5), To: id(4), Sides: 3, Value: one}, {Id: fresh, Act: api.Mark, Obj: id(6), Key: "k", At: id(7), Value: counter(1)},
		{Id: fresh, Act: api.Grow, Obj: id(8), Key: "k", To: id(99), N: 2}, {Id: fresh, Act: api.Grow, Obj: id(8), At: id(11), Key: "k", Value: one}, {Id: fresh, Act: api.Grow, Obj: id(8), At: id(10), Key: "k", Value: text("ab")},
		{Id: fresh, Act: api.Move, Obj: id(8), At: id(10), Key: "k", Value: junk}, {Id: fresh, Act: api.Move, Obj: id(8), At: id(11), To: id(9), Key: "j"}, {Id: fresh, Act: api.Move, Obj: id(8), At: id(10), To: id(11), Key: "j"}, {Id: fresh, Act: api.Move, Obj: id(8), At: id(10), To: id(9), Key: "k"},
		{Id: fresh, Act: api.Prune, Obj: id(8), At: id(9), Key: "\n", To: id(99), Value: junk}, {Id: fresh, Act: api.Prune, Obj: id(8), At: id(10)},
	} {
		d, _ := world(t)
		m := newModel()
		for _, o := range worldOps() {
			m.do(o, all)
		}
		before := snapshot(d, 22)
		b := d.Do(o, all)
		if !b.Did() || !m.do(o, all) {
			t.Errorf("the op %d, %v, was passed over", i, o)
		}
		if got, want := snapshot(d, 22), m.snapshot(22); !reflect.DeepEqual(got, want) {
			t.Errorf("the op %d, %v: %v, not %v", i, o, got, want)
		}
		if d.Do(api.Op{Id: o.Id, Act: api.Put, Key: "zzz", Value: one}, all).Did() {
			t.Errorf("the op %d: its Id was done twice", i)
		}
		undone(t, d, []*Back{b, d.last})
		if !reflect.DeepEqual(snapshot(d, 22), before) {
			t.Errorf("the op %d, %v, was not undone", i, o)
		}
	}
}

// DOC.md, a value that fits: MaxNest objects in one another, and no more
func TestNest(t *testing.T) {
	d := New()
	obj := zero
	for n := 1; n <= api.MaxNest; n++ {
		kind, act, key := api.Map, api.Put, "a"
		if d.Kind(obj) == api.List {
			act, key = api.Insert, ""
		}
		if n%2 == 0 {
			kind = api.List
		}
		done(t, d, api.Op{Id: id(n), Act: act, Obj: obj, Key: key, Value: empty(kind)})
		obj = id(n)
		if d.Deep(obj) != n || d.Kind(obj) != kind || d.Objects() != n+1 {
			t.Fatalf("Deep = %d, Kind = %d, Objects = %d", d.Deep(obj), d.Kind(obj), d.Objects())
		}
	}
	for k := api.Map; k <= api.Outline; k++ {
		if d.Do(api.Op{Id: id(100), Act: api.Insert, Obj: obj, Value: empty(k)}, all).Did() {
			t.Errorf("the kind %d is too deep", k)
		}
	}
	done(t, d,
		api.Op{Id: id(100), Act: api.Insert, Obj: obj, Value: whole(1)},
		api.Op{Id: id(101), Act: api.Put, Obj: id(api.MaxNest - 1), Key: "b", Value: empty(api.Outline)},
		api.Op{Id: id(102), Act: api.Put, Obj: id(api.MaxNest - 1), Key: "c", Value: empty(api.Map)})
	for _, o := range []api.Op{
		{Id: id(103), Act: api.Put, Obj: obj, At: id(100), Value: empty(api.Map)},
		{Id: id(103), Act: api.Put, Obj: id(102), Key: "a", Value: empty(api.String)},
	} {
		if d.Do(o, all).Did() {
			t.Error("too deep")
		}
	}
	if d.Deep(id(101)) != api.MaxNest || d.Deep(id(103)) != -1 {
		t.Error("Deep")
	}
}

// P12.3: only the last step can be undone, and once; what is undone can be done again
func TestOnlyTheLastStep(t *testing.T) {
	d, backs := world(t)
	backs = append(backs, d.Do(api.Op{}, all), d.Do(api.Op{Id: id(17), Act: api.Delete, Key: "a"}, nil), d.Do(api.Op{}, nil))
	foreign, _ := world(t)
	for i := len(backs) - 1; i >= 0; i-- {
		before := snapshot(d, 18)
		for j, b := range backs {
			if j != i && d.Undo(b) != api.ErrRange {
				t.Fatalf("the step %d was undone ahead of %d", j, i)
			}
		}
		if d.Undo(nil) != api.ErrRange || d.Undo(&Back{}) != api.ErrRange || d.Undo(foreign.last) != api.ErrRange {
			t.Fatal("a step that is none of its own was undone")
		}
		if !reflect.DeepEqual(snapshot(d, 18), before) {
			t.Fatal("an Undo that was refused changed something")
		}
		did := backs[i].Did()
		if d.Undo(backs[i]) != api.OK || backs[i].Did() != did {
			t.Fatal("Undo")
		}
	}
	asNew(t, d)
	if d.Undo(backs[0]) != api.ErrRange || d.Undo(nil) != api.ErrRange {
		t.Error("nothing is left to be undone")
	}
	done(t, d, worldOps()...)
	if !reflect.DeepEqual(snapshot(d, 18), snapshot(foreign, 18)) {
		t.Error("done again it is not the same")
	}
}

// P12.3: what an op changed is brought back the last part first, of the document of which it is undone
func TestBackwards(t *testing.T) {
	d := New()
	b := d.Do(api.Op{Id: id(1), Act: api.Put, Key: "a", Value: whole(1)}, all)
	f := d.Fork()
	var parts []int
	for n := range 3 {
		b.changed(func(of *Doc) {
			if of != f {
				t.Error("another document")
			}
			parts = append(parts, n)
		})
	}
	if f.Undo(b) != api.OK || !slices.Equal(parts, []int{2, 1, 0}) {
		t.Errorf("%v", parts)
	}
}

// P12.1, P5: a Back of a step ahead of the Fork is one of both; of a later one, of one alone
func TestForkAndBack(t *testing.T) {
	d, backs := world(t)
	f := d.Fork()
	was := snapshot(d, 32)
	own := done(t, d,
		api.Op{Id: id(20), Act: api.Put, Key: "a", Value: whole(7)},
		api.Op{Id: id(21), Act: api.Insert, Obj: id(3), At: id(4), Value: empty(api.Map)},
		api.Op{Id: id(22), Act: api.Mark, Obj: id(3), Key: "k", Value: whole(1)},
		api.Op{Id: id(23), Act: api.Move, Obj: id(8), At: id(11), Key: "j"},
		api.Op{Id: id(24), Act: api.Insert, Obj: id(6), Value: text("y")})
	now := snapshot(d, 32)
	if !reflect.DeepEqual(snapshot(f, 32), was) || f.last != backs[len(backs)-1] {
		t.Error("a Fork knows what is done to the other one")
	}
	others := done(t, f,
		api.Op{Id: id(20), Act: api.Delete, Key: "a"},
		api.Op{Id: id(21), Act: api.Put, Key: "b", Value: whole(8)},
		api.Op{Id: id(25), Act: api.Mark, Obj: id(3), Key: "n", Value: whole(2)},
		api.Op{Id: id(26), Act: api.Prune, Obj: id(8), At: id(9)},
		api.Op{Id: id(27), Act: api.Delete, Obj: id(6), At: id(7)},
		api.Op{Id: id(28), Act: api.Insert, Obj: id(3), At: id(4), Value: whole(9)})
	if !reflect.DeepEqual(snapshot(d, 32), now) {
		t.Error("the other one knows what is done to a Fork")
	}
	if f.Undo(own[4]) != api.ErrRange || d.Undo(others[5]) != api.ErrRange || f.Undo(backs[len(backs)-1]) != api.ErrRange {
		t.Error("a step of one alone")
	}
	undone(t, f, append(slices.Clone(backs), others...))
	asNew(t, f)
	if !reflect.DeepEqual(snapshot(d, 32), now) {
		t.Error("the other one knows what is undone of a Fork")
	}
	undone(t, d, append(slices.Clone(backs), own...))
	asNew(t, d)
}

// P1, P12.1 to P12.4
func TestNil(t *testing.T) {
	var d *Doc
	var b *Back
	if d.Fork() != nil || d.Do(api.Op{Id: id(1), Act: api.Put, Key: "a"}, all) != nil || d.Do(api.Op{}, nil) != nil || b.Did() || (&Back{}).Did() {
		t.Error("a nil document does something")
	}
	other := New()
	if d.Undo(nil) != api.ErrNil || d.Undo(other.Do(api.Op{}, nil)) != api.ErrNil {
		t.Error("Undo of a nil document")
	}
	if d.Objects() != 0 || d.Kind(zero) != api.Null || d.Deep(zero) != -1 || len(d.Keys(zero)) != 0 || len(d.Live(zero)) != 0 || len(d.Kids(zero, zero)) != 0 || d.Position(zero, zero) != "" || len(d.Spans(zero)) != 0 {
		t.Error("a nil document has something")
	}
	lies(t, d, api.Place{})
	lies(t, d, api.Place{Key: "a"})
}

// P12.4: what is asked of an object of another kind, or of none, and of places that are none
func TestAskedOfOthers(t *testing.T) {
	d, _ := world(t)
	done(t, d, api.Op{Id: id(17), Act: api.Mark, Obj: id(6), Key: "k", Value: whole(1)})
	is := map[api.Id]api.Kind{zero: api.Map, id(2): api.Map, id(3): api.List, id(6): api.String, id(8): api.Outline}
	for _, obj := range few(22) {
		k := is[obj]
		if d.Kind(obj) != k || (d.Deep(obj) >= 0) != (k != api.Null) {
			t.Errorf("%v: Kind = %d, Deep = %d", obj, d.Kind(obj), d.Deep(obj))
		}
		if (len(d.Keys(obj)) > 0) != (k == api.Map) || (len(d.Live(obj)) > 0) != (k == api.List || k == api.String) || (len(d.Kids(obj, zero)) > 0) != (k == api.Outline) || (d.Position(obj, id(9)) != "") != (k == api.Outline) || (len(d.Spans(obj)) > 0) != (k == api.String) {
			t.Errorf("%v tells what its kind does not", obj)
		}
	}
	if !slices.Equal(d.Keys(zero), []string{"a", "l", "m"}) || !slices.Equal(d.Keys(id(2)), []string{"o", "s"}) {
		t.Error("Keys")
	}
	if !slices.Equal(d.Kids(id(8), id(9)), []api.Id{id(10)}) || len(d.Kids(id(8), id(10))) != 0 || len(d.Kids(id(8), id(4))) != 0 || d.Position(id(8), id(10)) != "k" || d.Position(id(8), id(11)) != "" || d.Position(id(8), zero) != "" {
		t.Error("Kids, Position")
	}
	lies(t, d, api.Place{Obj: id(8), At: id(11)}, entry(11, whole(11)))
	for _, none := range []api.Place{{}, {Key: "zz"}, {Key: "a", At: id(1)}, {Obj: id(2)}, {Obj: id(3), Key: "a"}, {Obj: id(3)}, {Obj: id(3), At: id(5)}, {Obj: id(3), At: id(7)}, {Obj: id(3), At: id(4), Key: "a"}, {Obj: id(8), Key: "k"}, {Obj: id(8), Key: "k", At: id(9)}, {Obj: id(4), At: id(4)}, {Obj: id(99), Key: "a"}} {
		lies(t, d, none)
	}
}

// P3: what is answered shares no memory with the document
func TestMemory(t *testing.T) {
	d, _ := world(t)
	done(t, d, api.Op{Id: id(17), Act: api.Mark, Obj: id(6), Key: "k", Value: whole(1)})
	was := snapshot(d, 20)
	spoil := func(l []api.Id) { clear(l[:cap(l)]) }
	for range 2 {
		for _, obj := range few(20) {
			spoil(d.Live(obj))
			spoil(d.Kids(obj, zero))
			keys, spans := d.Keys(obj), d.Spans(obj)
			clear(keys[:cap(keys)])
			clear(spans[:cap(spans)])
			for _, p := range []api.Place{{Obj: obj, Key: "a"}, {Obj: obj, Key: "s"}, {Obj: obj, At: id(4)}, {Obj: obj, At: id(9)}} {
				l := d.Entries(p)
				clear(l[:cap(l)])
			}
		}
	}
	if !reflect.DeepEqual(snapshot(d, 20), was) {
		t.Error("what is done to an answer shows")
	}
}

// said is an op and what it had seen.
type said struct {
	op   api.Op
	seen func(api.Id) bool
}

const names = 28 // Ids that the scripts use

// any is an op by chance that could often be done.
func (m *model) any(r *rand.Rand) said {
	var objects []api.Id
	for _, x := range few(names) {
		if m.objects[x] != nil {
			objects = append(objects, x)
		}
	}
	fresh := slices.DeleteFunc(few(names), func(x api.Id) bool { return m.done[x] || x != id(x.N) || x.N < 1 })
	o := api.Op{Id: id(r.Intn(names)), Act: api.Act(1 + r.Intn(9)), Obj: objects[r.Intn(len(objects))], Sides: r.Intn(4), N: int64(r.Intn(5))}
	if m.objects[id(8)] != nil && r.Intn(4) == 0 { // in the world an Outline, of which there are few
		o.Obj = id(8)
	}
	if len(fresh) > 0 && r.Intn(8) > 0 {
		o.Id = fresh[r.Intn(len(fresh))]
	}
	x := m.objects[o.Obj]
	values := []api.Value{{}, whole(1), counter(3), text("x"), text("y"), text("€"), text("ab"), empty(api.Map), empty(api.List), empty(api.String), empty(api.Outline), {Kind: 99}}
	o.Value = values[r.Intn(len(values))]
	if x.kind == api.String && r.Intn(8) > 0 {
		o.Value = text(string(rune('a' + r.Intn(3))))
	}
	if x.kind == api.Map || o.Act >= api.Mark {
		o.Key = []string{"a", "b", "c"}[r.Intn(3)]
	}
	o.At, o.To = x.any(r), x.any(r)
	if x.kind == api.Map && r.Intn(20) > 0 {
		o.At = zero
		o.Act = []api.Act{api.Put, api.Put, api.Delete, api.Add}[r.Intn(4)]
	}
	if x.isSequence() && o.Act > api.Mark && r.Intn(10) > 0 {
		o.Act, o.Key = api.Insert, ""
	}
	if x.kind == api.Outline && o.Act < api.Grow && r.Intn(3) > 0 {
		o.Act, o.Key = []api.Act{api.Grow, api.Grow, api.Move, api.Prune}[r.Intn(4)], "b"
	}
	if r.Intn(20) == 0 {
		o.Obj = id(r.Intn(names))
	}
	if r.Intn(30) == 0 {
		o.Key, o.Sides = []string{"", "a", "\n"}[r.Intn(3)], -1+r.Intn(6)
	}
	mask := r.Int63() | r.Int63()
	seen := func(x api.Id) bool { return mask>>x.N&1 == 1 }
	return said{o, []func(api.Id) bool{seen, seen, all, nil}[r.Intn(4)]}
}

// any is an element, or a node, of an object; or the zero Id, or any other one.
func (x *thing) any(r *rand.Rand) api.Id {
	l := slices.Clone(x.elements)
	for _, n := range few(names) {
		if x.nodes[n] != nil {
			l = append(l, n)
		}
	}
	switch k := r.Intn(10); {
	case k == 0:
		return id(r.Intn(names))
	case k < 3 || len(l) == 0:
		return zero
	}
	return l[r.Intn(len(l))]
}

// replay is the model of which these were done.
func replay(l []said) *model {
	m := newModel()
	for _, s := range l {
		m.do(s.op, s.seen)
	}
	return m
}

// script is a document and what was done to it.
type script struct {
	d     *Doc
	m     *model
	ops   []said
	backs []*Back
}

func (x *script) fork() *script {
	return &script{x.d.Fork(), replay(x.ops), slices.Clone(x.ops), slices.Clone(x.backs)}
}

func (x *script) do(t *testing.T, s said) {
	t.Helper()
	did := x.m.do(s.op, s.seen)
	b := x.d.Do(s.op, s.seen)
	if b.Did() != did {
		t.Fatalf("%v: Did = %v", s.op, b.Did())
	}
	x.ops, x.backs = append(x.ops, s), append(x.backs, b)
}

func (x *script) undo(t *testing.T, many int) {
	t.Helper()
	for ; many > 0 && len(x.ops) > 0; many-- {
		last := len(x.ops) - 1
		if last > 0 && x.d.Undo(x.backs[last-1]) != api.ErrRange || x.d.Undo(x.backs[last]) != api.OK {
			t.Fatal("Undo")
		}
		x.ops, x.backs = slices.Clip(x.ops[:last]), slices.Clip(x.backs[:last])
	}
	x.m = replay(x.ops)
}

func (x *script) tells(t *testing.T) {
	t.Helper()
	if got, want := snapshot(x.d, names), x.m.snapshot(names); !reflect.DeepEqual(got, want) {
		for obj, of := range got.Of {
			if !reflect.DeepEqual(of, want.Of[obj]) {
				t.Errorf("of %v: %v, not %v", obj, of, want.Of[obj])
			}
		}
		t.Fatalf("behind %d ops", len(x.ops))
	}
}

// P12.1 to P12.6, P12.8, P5: scripts of steps, Undos and Forks by chance, held against the model, which forgets what was undone; in the end all is undone
func TestByDefinition(t *testing.T) {
	acts := map[api.Act]int{}
	for seed := range int64(80) {
		r := rand.New(rand.NewSource(seed))
		scripts := []*script{{d: New(), m: newModel()}}
		floor := 0
		if seed%4 > 0 {
			floor = len(worldOps())
		}
		for _, o := range worldOps()[:floor] {
			scripts[0].do(t, said{o, all})
		}
		for range 120 {
			x := scripts[r.Intn(len(scripts))]
			switch k := r.Intn(24); {
			case k == 0 && len(scripts) < 4:
				scripts = append(scripts, x.fork())
			case k < 3:
				x.undo(t, r.Intn(len(x.ops)-floor+1))
			default:
				s := x.m.any(r)
				x.do(t, s)
				if x.d.last.Did() {
					acts[s.op.Act]++
				}
			}
			x.tells(t)
		}
		for _, x := range scripts {
			x.tells(t)
			x.undo(t, len(x.ops))
			asNew(t, x.d)
		}
	}
	for a := api.Put; a <= api.Prune; a++ {
		if acts[a] < 50 {
			t.Errorf("the act %d was done %d times", a, acts[a])
		}
	}
}

// P12.7: what is done in one object changes nothing of another one, but that one may come to be
func TestOthersStay(t *testing.T) {
	for seed := range int64(60) {
		r := rand.New(rand.NewSource(1000 + seed))
		x := &script{d: New(), m: newModel()}
		before := snapshot(x.d, names)
		for range 80 {
			s := x.m.any(r)
			x.do(t, s)
			after := snapshot(x.d, names)
			for obj, was := range before.Of {
				if obj != s.op.Obj && was.Kind != api.Null && !reflect.DeepEqual(after.Of[obj], was) {
					t.Fatalf("%v changed %v", s.op, obj)
				}
				if was.Kind == api.Null && after.Of[obj].Kind != api.Null && (obj != s.op.Id || after.Objects != before.Objects+1) {
					t.Fatalf("%v made %v", s.op, obj)
				}
			}
			before = after
		}
	}
}

// P12.9: documents of some of the ops of one row have their elements in the same order
func TestSameOrder(t *testing.T) {
	for seed := range int64(200) {
		r := rand.New(rand.NewSource(seed))
		row := []api.Op{{Id: id(1), Act: api.Put, Key: "a", Value: empty(api.List)}}
		for n := 2; n < 60; n++ {
			o := api.Op{Id: id(n), Act: api.Insert, Obj: id(1), At: id(1 + r.Intn(n)), Value: whole(1)}
			if r.Intn(4) == 0 {
				o.At = zero
			}
			if r.Intn(5) == 0 {
				o.Act = api.Delete
			}
			row = append(row, o)
		}
		some := func() []api.Id {
			d := New()
			for i, o := range row {
				if i == 0 || r.Intn(4) > 0 {
					d.Do(o, all)
				}
			}
			for _, o := range row { // so that all that are there are told
				d.Do(api.Op{Id: id(1000 + o.Id.N), Act: api.Put, Obj: id(1), At: o.Id, Value: whole(2)}, all)
			}
			return d.Live(id(1))
		}
		a, b := some(), some()
		without := func(l, of []api.Id) []api.Id {
			return slices.DeleteFunc(slices.Clone(l), func(x api.Id) bool { return !slices.Contains(of, x) })
		}
		if !slices.Equal(without(a, b), without(b, a)) {
			t.Fatalf("%v and %v", a, b)
		}
	}
}

// DOC.md's sixth and seventh examples
func TestTwoAuthors(t *testing.T) {
	d := New()
	other := func(n int) api.Id { return api.Id{Hash: api.Hash{9}, N: n} }
	done(t, d, api.Op{Id: id(1), Act: api.Put, Key: "t", Value: empty(api.String)})
	for _, of := range []func(int) api.Id{id, other} {
		at := zero
		for n := 2; n < 5; n++ {
			done(t, d, api.Op{Id: of(n), Act: api.Insert, Obj: id(1), At: at, Value: text("x")})
			at = of(n)
		}
	}
	if !slices.Equal(d.Live(id(1)), []api.Id{other(2), other(3), other(4), id(2), id(3), id(4)}) {
		t.Errorf("Live = %v", d.Live(id(1)))
	}
	done(t, d,
		api.Op{Id: id(10), Act: api.Put, Key: "o", Value: empty(api.Outline)},
		api.Op{Id: id(11), Act: api.Grow, Obj: id(10), Key: "k", Value: whole(1)},
		api.Op{Id: id(12), Act: api.Grow, Obj: id(10), Key: "k", Value: whole(2)},
		api.Op{Id: id(13), Act: api.Move, Obj: id(10), At: id(11), To: id(12), Key: "k"})
	if d.Do(api.Op{Id: other(13), Act: api.Move, Obj: id(10), At: id(12), To: id(11), Key: "k"}, nil).Did() {
		t.Error("a node lies in itself")
	}
	if !slices.Equal(d.Kids(id(10), zero), []api.Id{id(12)}) || !slices.Equal(d.Kids(id(10), id(12)), []api.Id{id(11)}) {
		t.Error("Kids")
	}
}

// P6: many ops in one object, in many objects, and in a deep outline
func TestMany(t *testing.T) {
	const n = 1 << 15
	d := New()
	backs := done(t, d,
		api.Op{Id: id(1), Act: api.Put, Key: "l", Value: empty(api.List)},
		api.Op{Id: id(2), Act: api.Put, Key: "o", Value: empty(api.Outline)})
	at, under := zero, zero
	for i := range n {
		e, o := id(3+2*i), id(4+2*i)
		backs = append(backs, done(t, d,
			api.Op{Id: e, Act: api.Insert, Obj: id(1), At: at, Value: empty(api.Map)},
			api.Op{Id: o, Act: api.Grow, Obj: id(2), At: under, Key: "k", Value: whole(1)})...)
		at, under = e, o
	}
	f := d.Fork()
	for i := range n {
		done(t, d, api.Op{Id: id(n*4 + i), Act: api.Put, Obj: id(2), At: id(4 + 2*i), Value: whole(2)})
	}
	if d.Objects() != n+3 || len(d.Live(id(1))) != n || d.Do(api.Op{Id: id(1 << 30), Act: api.Move, Obj: id(2), At: id(4), To: under, Key: "k"}, all).Did() {
		t.Error("many")
	}
	undone(t, f, backs)
	asNew(t, f)
}
