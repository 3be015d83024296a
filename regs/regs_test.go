package regs

import (
	"math"
	"math/rand"
	"reflect"
	"slices"
	"strings"
	"testing"

	"estuary/api"
)

func id(n int) api.Id { return api.Id{Hash: api.Hash{1}, N: n} }

func whole(n int64) api.Value   { return api.Value{Kind: api.Int, N: n} }
func counter(n int64) api.Value { return api.Value{Kind: api.Counter, N: n} }

func entry(n int, v api.Value) api.Entry { return api.Entry{Id: id(n), Value: v} }

// saw has seen the ops of these numbers.
func saw(l ...int) func(api.Id) bool {
	return func(x api.Id) bool { return x == id(x.N) && slices.Contains(l, x.N) }
}

func all(api.Id) bool  { return true }
func none(api.Id) bool { return false }

func key(s string) api.Place { return api.Place{Key: s} }

// same holds entries against each other, floats by their bits.
func same(a, b api.Entry) bool {
	bits := math.Float64bits(a.Value.F) == math.Float64bits(b.Value.F)
	a.Value.F, b.Value.F = 0, 0
	return bits && a == b
}

func lies(t *testing.T, r *Regs, p api.Place, want ...api.Entry) {
	t.Helper()
	if got := r.Entries(p); !slices.EqualFunc(got, want, same) {
		t.Errorf("%v: %v, not %v", p, got, want)
	}
	top, ok := r.Top(p)
	if ok != (len(want) > 0) || ok && !same(top, want[len(want)-1]) || !ok && top != (api.Entry{}) {
		t.Errorf("%v: Top = %v, %v", p, top, ok)
	}
}

func undo(t *testing.T, r *Regs, b *Back) {
	t.Helper()
	if why := r.Undo(b); why != api.OK {
		t.Errorf("Undo: %d", why)
	}
}

// P8.2 to P8.4, the first example
func TestEntries(t *testing.T) {
	r, p := New(), key("a")
	first := r.Put(p, id(1), whole(1), none)
	r.Put(p, id(2), whole(2), nil)
	lies(t, r, p, entry(1, whole(1)), entry(2, whole(2)))
	third := r.Put(p, id(3), whole(3), saw(1))
	lies(t, r, p, entry(2, whole(2)), entry(3, whole(3)))
	undo(t, r, third)
	lies(t, r, p, entry(1, whole(1)), entry(2, whole(2)))
	r.Delete(p, saw(2))
	lies(t, r, p, entry(1, whole(1)))
	if r.Undo(first) != api.ErrRange {
		t.Error("a step that is not the last one was undone")
	}
	lies(t, r, p, entry(1, whole(1)))
	r.Put(p, id(1), whole(4), nil)
	lies(t, r, p, entry(1, whole(1)), entry(1, whole(4)))
	r.Put(p, id(5), whole(5), saw(1, 5))
	lies(t, r, p, entry(5, whole(5)))
}

// P8.2, the second example
func TestCounters(t *testing.T) {
	r, p := New(), key("n")
	r.Put(p, id(1), counter(5), nil)
	steps := []*Back{r.Add(p, 2, saw(1)), r.Add(p, 3, saw(1)), r.Add(p, 1, none), r.Add(p, 1, nil), r.Add(p, 1, saw(2))}
	lies(t, r, p, entry(1, counter(10)))
	for i := len(steps) - 1; i >= 0; i-- {
		undo(t, r, steps[i])
	}
	lies(t, r, p, entry(1, counter(5)))
}

// P8.2: value.Sum of each that was seen: going round, and of right Counters alone; none moves
func TestAdd(t *testing.T) {
	r, p := New(), key("n")
	spoilt := api.Value{Kind: api.Counter, N: 1, S: "x"}
	for n, v := range []api.Value{counter(1), whole(2), counter(math.MaxInt64), {Kind: api.Time, N: 4}, spoilt, counter(6), {Kind: 99, N: 7}} {
		r.Put(p, id(n+1), v, nil)
	}
	b := r.Add(p, 2, saw(1, 2, 3, 4, 5, 7))
	lies(t, r, p, entry(1, counter(3)), entry(2, whole(2)), entry(3, counter(math.MinInt64+1)), entry(4, api.Value{Kind: api.Time, N: 4}), entry(5, spoilt), entry(6, counter(6)), entry(7, api.Value{Kind: 99, N: 7}))
	least := r.Add(p, math.MinInt64, saw(6))
	r.Undo(r.Add(p, math.MinInt64, all))
	lies(t, r, p, entry(1, counter(3)), entry(2, whole(2)), entry(3, counter(math.MinInt64+1)), entry(4, api.Value{Kind: api.Time, N: 4}), entry(5, spoilt), entry(6, counter(math.MinInt64+6)), entry(7, api.Value{Kind: 99, N: 7}))
	undo(t, r, least)
	undo(t, r, b)
	lies(t, r, p, entry(1, counter(1)), entry(2, whole(2)), entry(3, counter(math.MaxInt64)), entry(4, api.Value{Kind: api.Time, N: 4}), entry(5, spoilt), entry(6, counter(6)), entry(7, api.Value{Kind: 99, N: 7}))
	r.Add(key("other"), 3, all)
	lies(t, r, key("other"))
	if r.Len() != 1 {
		t.Error("an Add made a place")
	}
}

// P8.1, P8.3, the third example
func TestForkAndBack(t *testing.T) {
	r, p := New(), key("a")
	first := r.Put(p, id(1), whole(1), nil)
	second := r.Put(p, id(2), whole(2), saw(1))
	f := r.Fork()
	undo(t, f, second)
	lies(t, f, p, entry(1, whole(1)))
	lies(t, r, p, entry(2, whole(2)))
	third := f.Put(p, id(3), whole(3), nil)
	if r.Undo(third) != api.ErrRange || f.Undo(second) != api.ErrRange {
		t.Error("a step of one that was done of the other alone")
	}
	lies(t, f, p, entry(1, whole(1)), entry(3, whole(3)))
	undo(t, r, second)
	undo(t, r, first)
	lies(t, r, p)
	lies(t, f, p, entry(1, whole(1)), entry(3, whole(3)))
	undo(t, f, third)
	undo(t, f, first)
	if r.Len() != 0 || f.Len() != 0 || f.Undo(first) != api.ErrRange {
		t.Error("all undone")
	}
}

// P8.2, P8.3: a step by which nothing becomes another is one; only the last one can be undone, and once
func TestOnlyTheLastStep(t *testing.T) {
	r, p := New(), key("a")
	steps := []*Back{
		r.Delete(p, all), r.Add(p, 1, all), r.Put(p, id(1), whole(1), all), r.Add(p, 1, all), r.Delete(p, none), r.Delete(p, nil),
		r.Put(key("b"), id(2), whole(2), all), r.Delete(p, all), r.Delete(p, all), r.Add(p, 0, all),
	}
	foreign := New().Put(p, id(1), whole(1), all)
	for i := len(steps) - 1; i >= 0; i-- {
		before := tell(r)
		for j, b := range steps {
			if j != i && r.Undo(b) != api.ErrRange {
				t.Fatalf("the step %d was undone ahead of %d", j, i)
			}
		}
		if r.Undo(nil) != api.ErrRange || r.Undo(foreign) != api.ErrRange || r.Undo(&Back{}) != api.ErrRange {
			t.Fatal("a step that is none of its own was undone")
		}
		if !reflect.DeepEqual(tell(r), before) {
			t.Fatal("an Undo that was refused changed something")
		}
		undo(t, r, steps[i])
	}
	if r.Len() != 0 || r.Undo(steps[0]) != api.ErrRange || r.Undo(nil) != api.ErrRange {
		t.Error("nothing is left to be undone")
	}
	for _, b := range steps {
		if b == nil {
			t.Error("a step without a Back")
		}
	}
}

// P8.4
func TestKeysAndLen(t *testing.T) {
	r, o := New(), id(9)
	put := func(p api.Place) { r.Put(p, id(1), whole(1), all) }
	names := []string{"b", "", "a", "\xff", "é", "ab", "a\x00", "B", strings.Repeat("k", 2*api.MaxKey)}
	for _, s := range names {
		put(api.Place{Obj: o, Key: s})
		r.Put(api.Place{Obj: o, Key: s}, id(2), whole(2), nil)
	}
	put(api.Place{Obj: o, Key: "element", At: id(1)})
	put(api.Place{Obj: o, Key: "odd", At: api.Id{N: -1}})
	put(api.Place{Obj: id(8), Key: "elsewhere"})
	put(api.Place{Obj: api.Id{N: 9}, Key: "no hash"})
	slices.Sort(names)
	if got := r.Keys(o); !slices.Equal(got, names) || r.Len() != len(names)+4 {
		t.Errorf("Keys = %q, Len = %d", got, r.Len())
	}
	if got := r.Keys(id(8)); !slices.Equal(got, []string{"elsewhere"}) || len(r.Keys(api.Id{})) > 0 {
		t.Errorf("Keys = %q", got)
	}
	r.Delete(api.Place{Obj: o, Key: "a"}, saw(1))
	if got := r.Keys(o); !slices.Equal(got, names) {
		t.Errorf("Keys where something lies still = %q", got)
	}
	gone := r.Delete(api.Place{Obj: o, Key: "a"}, all)
	at := slices.Index(names, "a")
	if got := r.Keys(o); !slices.Equal(got, slices.Delete(slices.Clone(names), at, at+1)) || r.Len() != len(names)+3 {
		t.Errorf("Keys where nothing lies any more = %q", got)
	}
	undo(t, r, gone)
	r.Delete(api.Place{Obj: id(8), Key: "elsewhere"}, all)
	r.Delete(api.Place{Obj: o, Key: "element", At: id(1)}, all)
	if got := r.Keys(o); !slices.Equal(got, names) || len(r.Keys(id(8))) > 0 || r.Len() != len(names)+2 {
		t.Errorf("Keys = %q", got)
	}
}

// told is all that a Regs tells of the places that these tests use.
type told struct {
	Len     int
	Entries map[api.Place][]api.Entry
	Top     map[api.Place]api.Entry
	Keys    map[api.Id][]string
}

func objects() []api.Id { return []api.Id{{}, id(1), {N: -1}} }

func places() []api.Place {
	var l []api.Place
	for _, obj := range objects() {
		for _, k := range []string{"", "a", "b"} {
			for _, at := range []api.Id{{}, id(2)} {
				l = append(l, api.Place{Obj: obj, Key: k, At: at})
			}
		}
	}
	return l
}

func tell(r *Regs) told {
	x := told{r.Len(), map[api.Place][]api.Entry{}, map[api.Place]api.Entry{}, map[api.Id][]string{}}
	for _, p := range places() {
		if l := r.Entries(p); len(l) > 0 {
			x.Entries[p] = l
		}
		if e, ok := r.Top(p); ok {
			x.Top[p] = e
		}
	}
	for _, obj := range objects() {
		if l := r.Keys(obj); len(l) > 0 {
			x.Keys[obj] = l
		}
	}
	return x
}

// model is what lies at places, with all that lay there ahead of each step.
type model struct {
	places map[api.Place][]api.Entry
	backs  []*Back
	were   []map[api.Place][]api.Entry
}

func copied(m map[api.Place][]api.Entry) map[api.Place][]api.Entry {
	c := map[api.Place][]api.Entry{}
	for p, l := range m {
		c[p] = slices.Clone(l)
	}
	return c
}

// step does what the document says; act 0 is a Put, 1 a Delete, 2 an Add.
func (m *model) step(act int, p api.Place, e api.Entry, seen func(api.Id) bool) {
	m.were = append(m.were, copied(m.places))
	var l []api.Entry
	for _, x := range m.places[p] {
		if act == 2 && seen(x.Id) && x.Value.Kind == api.Counter {
			x.Value.N += e.Value.N
		}
		if act == 2 || !seen(x.Id) {
			l = append(l, x)
		}
	}
	if act == 0 {
		l = append(l, e)
	}
	m.places[p] = l
	if len(l) == 0 {
		delete(m.places, p)
	}
}

func (m *model) tell() told {
	x := told{len(m.places), copied(m.places), map[api.Place]api.Entry{}, map[api.Id][]string{}}
	for p, l := range m.places {
		x.Top[p] = l[len(l)-1]
		if p.At == (api.Id{}) {
			x.Keys[p.Obj] = append(x.Keys[p.Obj], p.Key)
			slices.Sort(x.Keys[p.Obj])
		}
	}
	return x
}

// P8.1 to P8.5, P8.7: scripts of steps, Undos and Forks by chance, held against the model; in the end all is undone
func TestByDefinition(t *testing.T) {
	rnd := rand.New(rand.NewSource(1))
	where := places()
	for range 30 {
		regs, models := []*Regs{New()}, []*model{{places: map[api.Place][]api.Entry{}}}
		spots := 1 + rnd.Intn(len(where))
		for n := range 150 {
			at := rnd.Intn(len(regs))
			r, m := regs[at], models[at]
			if rnd.Intn(40) == 0 && len(regs) < 4 {
				regs = append(regs, r.Fork())
				models = append(models, &model{copied(m.places), slices.Clone(m.backs), slices.Clone(m.were)})
				continue
			}
			if rnd.Intn(4) == 0 && len(m.backs) > 0 {
				m.undo(t, r)
			} else {
				m.backs = append(m.backs, chance(rnd, r, m, n, where[rnd.Intn(spots)]))
			}
			for i := range regs {
				if !reflect.DeepEqual(tell(regs[i]), models[i].tell()) {
					t.Fatalf("the step %d of %d shows otherwise in %d", n, at, i)
				}
			}
		}
		for i, m := range models {
			for len(m.backs) > 0 {
				m.undo(t, regs[i])
				if !reflect.DeepEqual(tell(regs[i]), m.tell()) {
					t.Fatal("what was undone is not as it was")
				}
			}
			if regs[i].Len() != 0 {
				t.Fatal("all is undone, and something lies somewhere")
			}
		}
	}
}

func (m *model) undo(t *testing.T, r *Regs) {
	t.Helper()
	last := len(m.backs) - 1
	undo(t, r, m.backs[last])
	m.places = copied(m.were[last]) // a fork's model may have it too
	m.backs, m.were = m.backs[:last:last], m.were[:last:last]
}

// chance does one step of both, by chance.
func chance(rnd *rand.Rand, r *Regs, m *model, n int, p api.Place) *Back {
	salt := rnd.Intn(1000)
	odds := rnd.Intn(5)
	seen := func(x api.Id) bool { return (x.N*7919+salt)%5 < odds }
	e := entry(n, counter(int64(salt)))
	if rnd.Intn(3) == 0 {
		e.Value = api.Value{Kind: api.Text, S: "x"}
	}
	act := max(0, rnd.Intn(5)-2)
	m.step(act, p, e, seen)
	switch act {
	case 1:
		return r.Delete(p, seen)
	case 2:
		return r.Add(p, e.Value.N, seen)
	}
	return r.Put(p, e.Id, e.Value, seen)
}

// P8.5
func TestOtherPlacesStay(t *testing.T) {
	r := New()
	where := places()
	for i, p := range where {
		r.Put(p, id(i), counter(int64(i)), nil)
		r.Put(p, id(i+100), counter(int64(i)), nil)
	}
	for i, p := range where {
		before := tell(r)
		for _, step := range []func() *Back{
			func() *Back { return r.Put(p, id(7), whole(7), all) },
			func() *Back { return r.Delete(p, all) },
			func() *Back { return r.Add(p, 7, all) },
		} {
			b := step()
			for j, q := range where {
				if j != i {
					lies(t, r, q, entry(j, counter(int64(j))), entry(j+100, counter(int64(j))))
				}
			}
			undo(t, r, b)
			if !reflect.DeepEqual(tell(r), before) {
				t.Fatalf("%v: not as it was", p)
			}
		}
	}
}

// P8.6: what lies at a place, told by which op had seen which, and not by steps
func TestBySeenAlone(t *testing.T) {
	rnd := rand.New(rand.NewSource(2))
	for range 200 {
		type op struct {
			act  int
			n    int64
			seen map[int]bool
		}
		r, p := New(), key("a")
		var ops []op
		for n := range 20 {
			o := op{rnd.Intn(3), rnd.Int63() - rnd.Int63(), map[int]bool{}}
			for ahead := range n {
				o.seen[ahead] = rnd.Intn(3) == 0
			}
			ops = append(ops, o)
			seen := func(x api.Id) bool { return o.seen[x.N] }
			switch o.act {
			case 0:
				r.Put(p, id(n), counter(o.n), seen)
			case 1:
				r.Delete(p, seen)
			case 2:
				r.Add(p, o.n, seen)
			}
		}
		var want []api.Entry
		for n, o := range ops {
			gone, sum := o.act != 0, o.n
			for _, later := range ops[n+1:] {
				gone = gone || later.act != 2 && later.seen[n]
				if later.act == 2 && later.seen[n] {
					sum += later.n
				}
			}
			if !gone {
				want = append(want, entry(n, counter(sum)))
			}
		}
		lies(t, r, p, want...)
	}
}

// P8.2: any Place, Id and Value, right or not, comes out as it went in
func TestAnyValue(t *testing.T) {
	r := New()
	odd := []api.Value{{}, {Kind: 200, N: -1, F: math.NaN(), S: "\xff"}, {Kind: api.Float, F: math.Copysign(0, -1)}, {Kind: api.Float, F: math.Inf(1)}, {Kind: api.Map, N: 1}, {Kind: api.Text, S: strings.Repeat("x", 2*api.MaxText)}}
	p := api.Place{Obj: api.Id{N: math.MinInt}, Key: "\x00\xff", At: api.Id{N: -5}}
	var want []api.Entry
	for _, v := range odd {
		e := api.Entry{Id: api.Id{N: math.MinInt}, Value: v}
		r.Put(p, e.Id, e.Value, none)
		want = append(want, e)
	}
	lies(t, r, p, want...)
	add := r.Add(p, 1, all)
	lies(t, r, p, want...)
	gone := r.Delete(p, all)
	lies(t, r, p)
	undo(t, r, gone)
	undo(t, r, add)
	lies(t, r, p, want...)
}

// P1, P8.1
func TestNil(t *testing.T) {
	var r *Regs
	p := key("a")
	b := New().Put(p, id(1), whole(1), nil)
	if r.Fork() != nil || r.Put(p, id(1), whole(1), all) != nil || r.Delete(p, all) != nil || r.Add(p, 1, all) != nil {
		t.Error("a nil Regs did something")
	}
	if r.Undo(b) != api.ErrNil || r.Undo(nil) != api.ErrNil {
		t.Error("Undo")
	}
	if r.Len() != 0 || len(r.Keys(api.Id{})) > 0 {
		t.Error("a nil Regs has something")
	}
	lies(t, r, p)
	n := New()
	if n == nil || n.Len() != 0 || len(n.Keys(api.Id{})) > 0 || n.Undo(nil) != api.ErrRange || n.Undo(b) != api.ErrRange || n.Fork() == nil {
		t.Error("a new Regs has something")
	}
	lies(t, n, p)
	n.Fork().Put(p, id(1), whole(1), all)
	if n.Len() != 0 {
		t.Error("a new one's fork is that one")
	}
}

// P3, P5: neither answers nor forks share memory with what they are of, nor do what a step and its Undo leave
func TestMemory(t *testing.T) {
	r, p := New(), key("a")
	for n := range 5 {
		r.Put(p, id(n), counter(int64(n)), nil)
	}
	gone := r.Delete(p, saw(1, 3))
	want := tell(r)
	for range 2 {
		l := r.Entries(p)
		l = l[:cap(l)]
		clear(l)
		k := r.Keys(api.Id{})
		k = k[:cap(k)]
		clear(k)
	}
	if !reflect.DeepEqual(tell(r), want) {
		t.Fatal("what is done to an answer shows")
	}
	forks := []*Regs{r, r.Fork(), r.Fork()}
	for _, f := range forks {
		undo(t, f, gone)
	}
	for i, f := range forks {
		f.Add(p, int64(100*i), all)
		f.Put(p, id(9+i), whole(9), saw(0))
		f.Put(key("new"), id(3), whole(int64(i)), all)
	}
	for i, f := range forks {
		n := int64(100 * i)
		lies(t, f, p, entry(1, counter(1+n)), entry(2, counter(2+n)), entry(3, counter(3+n)), entry(4, counter(4+n)), entry(9+i, whole(9)))
		lies(t, f, key("new"), entry(3, whole(int64(i))))
	}
}

// P5: what is put at one place of several Forks, behind what they have in common, is each one's own
func TestForksPutAtOnePlace(t *testing.T) {
	for many := range 9 {
		r, p := New(), key("a")
		var want []api.Entry
		var last *Back
		for n := range many {
			last = r.Put(p, id(n), whole(int64(n)), nil)
			want = append(want, entry(n, whole(int64(n))))
		}
		forks := []*Regs{r, r.Fork(), r.Fork(), r.Fork().Fork()}
		for i, f := range forks {
			f.Put(p, id(100+i), whole(9), nil)
		}
		for i, f := range forks {
			lies(t, f, p, append(slices.Clip(want), entry(100+i, whole(9)))...)
			undo(t, f, f.last)
		}
		for i, f := range forks {
			if i%2 == 1 && many > 0 {
				undo(t, f, last)
				f.Put(p, id(200+i), whole(8), nil)
			}
		}
		for i, f := range forks {
			if i%2 == 1 && many > 0 {
				lies(t, f, p, append(slices.Clip(want[:many-1]), entry(200+i, whole(8)))...)
			} else {
				lies(t, f, p, want...)
			}
		}
	}
}

// P6: many that wrote at one time cost a step no more than what it changes
func TestManyAtOnePlace(t *testing.T) {
	const many = 100000
	r, p := New(), key("a")
	steps := make([]*Back, many)
	for n := range steps {
		steps[n] = r.Put(p, id(n), counter(1), nil)
	}
	deep := r.Delete(p, func(x api.Id) bool { return x.N%2 == 0 })
	more := r.Add(p, 1, all)
	if l := r.Entries(p); len(l) != many/2 || l[0].Id != id(1) || l[many/2-1].Value.N != 2 {
		t.Errorf("%d entries", len(l))
	}
	undo(t, r, more)
	undo(t, r, deep)
	if l := r.Entries(p); len(l) != many || l[many-2] != entry(many-2, counter(1)) {
		t.Errorf("%d entries", len(l))
	}
	for n := many - 1; n >= 0; n-- {
		undo(t, r, steps[n])
	}
	if r.Len() != 0 {
		t.Error("all undone")
	}
}

// P6: the keys of one object are not looked for among all places
func TestManyObjects(t *testing.T) {
	const many = 20000
	r := New()
	for n := range many {
		r.Put(api.Place{Obj: id(n), Key: "k"}, id(n), whole(1), all)
	}
	for n := range many {
		if l := r.Keys(id(n)); len(l) != 1 || l[0] != "k" {
			t.Fatalf("Keys = %q", l)
		}
	}
}
