package eval

import (
	"math"
	"math/rand"
	"runtime"
	"slices"
	"sync"
	"testing"

	"estuary/api"
	"estuary/dag"
	"estuary/digest"
	"estuary/doc"
)

// alien is a hash of nothing.
var alien = api.Hash{7, 7, 7}

func list(l ...api.Hash) []api.Hash { return l }

func put(key string, n int) api.Edit { return api.Edit{Act: api.Put, Key: key, Value: whole(n)} }

func fresh(t *testing.T, every, keep int) *Eval {
	t.Helper()
	v, why := New(every, keep)
	if v == nil || why != api.OK {
		t.Fatalf("New(%d, %d) = %v, %d", every, keep, v, why)
	}
	return v
}

// take puts updates in, and tells how many steps that was.
func take(t *testing.T, v *Eval, g *dag.Graph, l ...api.Hash) int {
	t.Helper()
	steps := 0
	for _, h := range l {
		n, why := v.Put(g, h)
		if why != api.OK {
			t.Fatalf("Put: %d", why)
		}
		steps += n
	}
	return steps
}

// six is the updates of the examples: a to e, each the parent of the next, and x, of depth 1, whose id is above a's.
func six(t *testing.T) (w *world, row []api.Hash, x api.Hash) {
	t.Helper()
	w = newWorld()
	for i, key := range []string{"a", "b", "c", "d", "e"} {
		row = append(row, w.add(t, 1, row[max(0, i-1):i], put(key, i)))
	}
	for n := 0; digest.Compare(x, row[0]) <= 0; n++ {
		x = w.add(t, 2+n, nil, put("x", n))
	}
	return w, row, x
}

func keptAt(t *testing.T, v *Eval, want ...int) {
	t.Helper()
	if got := v.Kept(); !slices.Equal(got, want) {
		t.Errorf("Kept = %v, not %v", got, want)
	}
}

// P14.2, P14.3, the first three examples
func TestExamples(t *testing.T) {
	w, row, x := six(t)
	for _, c := range []struct {
		every, keep, steps int
		before, behind     []int
	}{
		{2, 1, 9, []int{4}, []int{6}},
		{1, 64, 5, []int{1, 2, 3, 4, 5}, []int{1, 2, 3, 4, 5, 6}},
		{1, 0, 9, nil, nil},
		{2, 2, 9, []int{2, 4}, []int{4, 6}},
		{1, 5, 5, []int{1, 2, 3, 4, 5}, []int{2, 3, 4, 5, 6}},
		{1, 4, 9, []int{2, 3, 4, 5}, []int{3, 4, 5, 6}},
		{5, 64, 9, []int{5}, []int{5}},
		{6, 1, 9, nil, []int{6}},
		{7, 64, 9, nil, nil},
	} {
		v := fresh(t, c.every, c.keep)
		if n, why := v.Put(w.g, row[2]); n != 0 || why != api.ErrParent {
			t.Errorf("c first: %d, %d", n, why)
		}
		for _, h := range row {
			if n := take(t, v, w.g, h); n != 1 {
				t.Errorf("%d steps", n)
			}
		}
		keptAt(t, v, c.before...)
		if n, why := v.Put(w.g, row[0]); n != 0 || why != api.ErrKnown {
			t.Errorf("a twice: %d, %d", n, why)
		}
		if n := take(t, v, w.g, x); n != c.steps {
			t.Errorf("every %d, keep %d: %d steps, not %d", c.every, c.keep, n, c.steps)
		}
		keptAt(t, v, c.behind...)
		if !slices.Equal(v.Log(), list(row[0], x, row[1], row[2], row[3], row[4])) || v.Steps() != 5+c.steps {
			t.Errorf("Log %x, Steps %d", v.Log(), v.Steps())
		}
		if !slices.Equal(v.Doc().Keys(api.Id{}), []string{"a", "b", "c", "d", "e", "x"}) {
			t.Errorf("Keys = %v", v.Doc().Keys(api.Id{}))
		}
	}
}

// P14.2: of undoing and coming from a checkpoint the one with fewer steps
func TestFewerSteps(t *testing.T) {
	const long = 12
	for every := 1; every <= long+1; every++ {
		for p := range long + 1 {
			w := newWorld()
			var row []api.Hash
			for i := range long {
				row = append(row, w.add(t, 1, row[max(0, i-1):i], put("k", i)))
			}
			late := row[:0:0]
			if p > 0 {
				late = row[p-1 : p]
			}
			h := w.add(t, 2, late, put("late", p))
			place := p
			if p < long && w.compare(h, row[p]) > 0 {
				place++
			}
			v := fresh(t, every, api.MaxKeep)
			take(t, v, w.g, row...)
			k, c := long-place, place/every*every
			want := 2*k + 1
			if c > 0 {
				want = min(want, place-c+k+1)
			}
			if n := take(t, v, w.g, h); n != want {
				t.Errorf("every %d, place %d: %d steps, not %d", every, place, n, want)
			}
		}
	}
}

// P14.4, the fourth example
func TestFoldExample(t *testing.T) {
	w := newWorld()
	a := w.add(t, 1, nil, put("k", 1), put("a", 1))
	b := w.add(t, 2, list(a), put("k", 2), api.Edit{Act: api.Put, Key: "m", Value: api.Value{Kind: api.Map}})
	c := w.add(t, 3, list(b), api.Edit{Act: api.Delete, Key: "m"}, put("c", 3), api.Edit{Act: api.Put, Obj: api.Ref{Kind: api.RefOp, Hash: b, N: 2}, Key: "in", Value: whole(4)})
	w.add(t, 4, list(b), put("d", 4))
	d := Fold(w.g, list(c), list(b))
	if !slices.Equal(d.Keys(api.Id{}), []string{"a", "c", "k"}) || d.Objects() != 1 {
		t.Errorf("Keys = %v, %d objects", d.Keys(api.Id{}), d.Objects())
	}
	if top, _ := d.Top(api.Place{Key: "k"}); top.Id != (api.Id{Hash: a, N: 1}) {
		t.Errorf("at k lies %v", top)
	}
	d = Fold(w.g, list(c), nil)
	if !slices.Equal(d.Keys(api.Id{}), []string{"a", "c", "k"}) || d.Objects() != 2 || !slices.Equal(d.Keys(api.Id{Hash: b, N: 2}), []string{"in"}) {
		t.Errorf("Keys = %v, %d objects", d.Keys(api.Id{}), d.Objects())
	}
	if top, _ := d.Top(api.Place{Key: "k"}); top.Id != (api.Id{Hash: b, N: 1}) || len(d.Entries(api.Place{Key: "k"})) != 1 {
		t.Errorf("at k lies %v", top)
	}
}

// P14.1
func TestNew(t *testing.T) {
	for _, x := range [][2]int{{0, 0}, {1, 65}, {-1, 1}, {1, -1}, {api.MaxEvery + 1, 1}, {math.MaxInt, 1}, {1, math.MaxInt}, {math.MinInt, math.MinInt}, {0, api.MaxKeep}} {
		if v, why := New(x[0], x[1]); v != nil || why != api.ErrRange {
			t.Errorf("New(%d, %d) = %v, %d", x[0], x[1], v, why)
		}
	}
	for _, x := range [][2]int{{1, 0}, {1, api.MaxKeep}, {api.MaxEvery, 0}, {api.MaxEvery, api.MaxKeep}} {
		v := fresh(t, x[0], x[1])
		if len(v.Log()) > 0 || len(v.Kept()) > 0 || v.Steps() != 0 || v.Doc().Objects() != 1 || len(v.Doc().Keys(api.Id{})) > 0 {
			t.Errorf("New(%d, %d) has taken something in", x[0], x[1])
		}
	}
}

// P1, P14.1, P14.2, P14.3: nil objects
func TestNil(t *testing.T) {
	w, row, _ := six(t)
	var v *Eval
	if v.Fork() != nil || len(v.Log()) > 0 || v.Doc() != nil || len(v.Kept()) > 0 || v.Steps() != 0 {
		t.Error("a nil Eval")
	}
	for _, g := range []*dag.Graph{nil, dag.New(), w.g} {
		for _, h := range list(row[0], row[1], alien) {
			if n, why := v.Put(g, h); n != 0 || why != api.ErrNil {
				t.Errorf("Put = %d, %d", n, why)
			}
		}
	}
	one := fresh(t, 1, 1)
	if n, why := one.Put(nil, row[0]); n != 0 || why != api.ErrNone {
		t.Errorf("Put = %d, %d", n, why)
	}
	for _, g := range []*dag.Graph{nil, dag.New()} {
		if d := Fold(g, row, row); d == nil || d.Objects() != 1 || len(d.Keys(api.Id{})) > 0 {
			t.Error("Fold of nothing")
		}
	}
}

// state is all that an Eval tells.
type state struct {
	log   []api.Hash
	kept  []int
	steps int
	doc   string
}

func (w *world) state(v *Eval) state {
	return state{v.Log(), v.Kept(), v.Steps(), w.tell(v.Doc())}
}

func (s state) same(o state) bool {
	return slices.Equal(s.log, o.log) && slices.Equal(s.kept, o.kept) && s.steps == o.steps && s.doc == o.doc
}

// P14.2, P14.7, P2: the first error that applies, and nothing changes
func TestRefused(t *testing.T) {
	w, row, x := six(t)
	part := dag.New() // lacks b and all behind it
	for _, h := range list(row[0], x) {
		u, _ := w.g.Update(h)
		if _, why := part.Add(u); why != api.OK {
			t.Fatal(why)
		}
	}
	v := fresh(t, 1, 2)
	for range 3 {
		was := w.state(v)
		in := len(was.log)
		for name, c := range map[string]struct {
			g   *dag.Graph
			h   api.Hash
			why api.Errno
		}{
			"of none":                     {w.g, alien, api.ErrNone},
			"of no graph":                 {nil, x, api.ErrNone},
			"of an empty graph":           {dag.New(), row[0], api.ErrNone},
			"not in this graph":           {part, row[1], api.ErrNone},
			"its parent is not in":        {w.g, row[4], api.ErrParent},
			"its parent, or it, not in":   {part, row[4], api.ErrNone},
			"the parent of its parent is": {w.g, row[in+1], api.ErrParent},
		} {
			if n, why := v.Put(c.g, c.h); n != 0 || why != c.why {
				t.Errorf("%s: %d, %d", name, n, why)
			}
		}
		if in > 0 {
			if n, why := v.Put(w.g, row[in-1]); n != 0 || why != api.ErrKnown {
				t.Errorf("known: %d, %d", n, why)
			}
		}
		if in > 1 {
			for _, h := range list(x, row[0]) { // a new one and a known one: another one of the log is not in the graph
				if n, why := v.Put(part, h); n != 0 || why != api.ErrNone {
					t.Errorf("one of the log is not in the graph: %d, %d", n, why)
				}
			}
		}
		if !was.same(w.state(v)) {
			t.Error("a Put that was refused changed something")
		}
		take(t, v, w.g, row[in])
	}
}

// wantKept are the greatest multiples of every that are not above the length, rising.
func wantKept(every, keep, length int) []int {
	var l []int
	for n := every; n <= length; n += every {
		l = append(l, n)
	}
	return l[max(0, len(l)-keep):]
}

// wantSteps is what the document says of a Put.
func wantSteps(kept []int, p, k int) int {
	least := 2*k + 1
	for _, c := range kept {
		if c <= p { // the last one is the greatest
			least = min(2*k+1, p-c+k+1)
		}
	}
	return least
}

// follow is an Eval that is held against the document's words.
type follow struct {
	*Eval
	every, keep int
	log         []api.Hash
	steps       int
}

func (w *world) put(t *testing.T, f *follow, g *dag.Graph, h api.Hash) {
	t.Helper()
	p := 0
	for _, x := range f.log {
		if w.compare(x, h) < 0 {
			p++
		}
	}
	k, before := len(f.log)-p, wantKept(f.every, f.keep, len(f.log))
	want := wantSteps(before, p, k)
	n, why := f.Put(g, h)
	if n != want || why != api.OK || n > 2*len(f.log)+1 {
		t.Fatalf("Put = %d, %d, not %d", n, why, want)
	}
	if slices.ContainsFunc(before, func(c int) bool { return c <= p && c > p-f.every }) && n > k+f.every {
		t.Fatalf("%d steps with a checkpoint near by", n)
	}
	f.log = w.past(append(slices.Clone(f.log), h))
	f.steps += n
	if !slices.Equal(f.Log(), f.log) || f.Steps() != f.steps || !slices.Equal(f.Kept(), wantKept(f.every, f.keep, len(f.log))) {
		t.Fatalf("%d in: Kept %v, Steps %d, not %d", len(f.log), f.Kept(), f.Steps(), f.steps)
	}
}

func (w *world) tells(t *testing.T, f *follow) {
	t.Helper()
	want := w.tell(w.document(f.log, nil))
	if got := w.tell(f.Doc()); got != want {
		t.Fatalf("every %d, keep %d: Doc tells\n%s, not\n%s", f.every, f.keep, got, want)
	}
	if got := w.tell(Fold(w.g, f.Log(), nil)); got != want {
		t.Fatalf("Fold tells\n%s, not\n%s", got, want)
	}
}

// bad tries what must be refused, of updates that could be put in later.
func (w *world) bad(t *testing.T, f *follow, h api.Hash) {
	t.Helper()
	why := api.OK
	for _, p := range w.updates[h].Parents {
		if !slices.Contains(f.log, p) {
			why = api.ErrParent
		}
	}
	if slices.Contains(f.log, h) {
		why = api.ErrKnown
	}
	if why == api.OK {
		return
	}
	if n, got := f.Put(w.g, h); n != 0 || got != why {
		t.Fatalf("Put = %d, %d, not %d", n, got, why)
	}
}

// P14.2, P14.3, P14.5, P14.6, P14.7: rows of Puts by chance, in any order that the graph lets them come
func TestByDefinition(t *testing.T) {
	r := rand.New(rand.NewSource(1))
	settings := [][2]int{{1, 0}, {1, 1}, {1, 3}, {1, 64}, {2, 1}, {2, 64}, {3, 2}, {5, 64}, {7, 3}, {16, 1}, {1024, 64}}
	for range 60 {
		w := anyWorld(t, r, 1+r.Intn(40))
		o := pick(r, settings...)
		f := &follow{Eval: fresh(t, o[0], o[1]), every: o[0], keep: o[1]}
		for i, h := range w.anyRow(r, w.made) {
			w.bad(t, f, pick(r, w.made...))
			w.put(t, f, w.g, h)
			if r.Intn(3) == 0 || i == len(w.made)-1 {
				w.tells(t, f)
			}
		}
		if !slices.Equal(f.Log(), w.g.Order()) {
			t.Error("not all are in")
		}
	}
}

// rebuilt is a graph of the same updates that came in another order, or of some of them.
func (w *world) rebuilt(t *testing.T, row []api.Hash) *dag.Graph {
	t.Helper()
	g := dag.New()
	for _, h := range row {
		if _, why := g.Add(w.updates[h]); why != api.OK {
			t.Fatal(why)
		}
	}
	return g
}

// P14.2: the graph may be another one each time, if it has all of the log
func TestOtherGraphs(t *testing.T) {
	r := rand.New(rand.NewSource(2))
	for range 10 {
		w := anyWorld(t, r, 25)
		f := &follow{Eval: fresh(t, 3, 2), every: 3, keep: 2}
		row := w.anyRow(r, w.made)
		for i, h := range row {
			if i > 0 && r.Intn(4) == 0 {
				if n, why := f.Put(w.rebuilt(t, row[:i]), h); n != 0 || why != api.ErrNone {
					t.Fatalf("not in yet: %d, %d", n, why)
				}
			}
			w.put(t, f, w.rebuilt(t, w.anyRow(r, row[:i+1])), h)
		}
		w.tells(t, f)
	}
}

// P5, P14.1: a Fork goes its own way
func TestFork(t *testing.T) {
	r := rand.New(rand.NewSource(3))
	for range 30 {
		w := anyWorld(t, r, 30)
		o := pick(r, [2]int{1, 64}, [2]int{2, 3}, [2]int{1, 0}, [2]int{5, 2})
		first := &follow{Eval: fresh(t, o[0], o[1]), every: o[0], keep: o[1]}
		row := w.anyRow(r, w.made)
		half := r.Intn(len(row))
		for _, h := range row[:half] {
			w.put(t, first, w.g, h)
		}
		all := []*follow{first}
		for range 3 {
			f := *first
			f.Eval = first.Fork()
			if !w.state(f.Eval).same(w.state(first.Eval)) {
				t.Fatal("a Fork tells something else")
			}
			all = append(all, &f)
		}
		rows := make([][]api.Hash, len(all))
		for i := range all {
			rows[i] = w.restBehind(r, row[:half])
		}
		for n := range rows[0] {
			for i, f := range all {
				w.put(t, f, w.g, rows[i][n])
			}
			w.tells(t, pick(r, all...))
		}
		for _, f := range all {
			w.tells(t, f)
		}
	}
}

// restBehind is a row of those that are not in yet.
func (w *world) restBehind(r *rand.Rand, in []api.Hash) []api.Hash {
	return slices.DeleteFunc(w.anyRow(r, w.made), func(h api.Hash) bool { return slices.Contains(in, h) })
}

// P5: Forks that work at one time do not know of one another
func TestForksAtOneTime(t *testing.T) {
	r := rand.New(rand.NewSource(4))
	w := anyWorld(t, r, 40)
	v := fresh(t, 2, 8)
	row := w.anyRow(r, w.made)
	take(t, v, w.g, row[:20]...)
	forks := make([]*Eval, 4)
	rows := make([][]api.Hash, len(forks))
	for i := range forks {
		forks[i], rows[i] = v.Fork(), w.restBehind(r, row[:20])
	}
	var wait sync.WaitGroup
	for i, f := range forks {
		wait.Go(func() {
			for _, h := range rows[i] {
				f.Put(w.g, h)
			}
		})
	}
	wait.Wait()
	want := w.tell(w.document(w.made, nil))
	for _, f := range forks {
		if w.tell(f.Doc()) != want {
			t.Error("a Fork tells something else")
		}
	}
	if !slices.Equal(v.Log(), w.past(row[:20])) || w.tell(v.Doc()) != w.tell(w.document(row[:20], nil)) {
		t.Error("the object knows of its Forks")
	}
}

// P14.5: the same log, however it came, and whatever every and keep are
func TestTheSameHoweverItCame(t *testing.T) {
	r := rand.New(rand.NewSource(5))
	for range 10 {
		w := anyWorld(t, r, 60)
		want := w.tell(w.document(w.made, nil))
		for range 6 {
			v := fresh(t, 1+r.Intn(8), r.Intn(10))
			take(t, v, w.g, w.anyRow(r, w.made)...)
			if w.tell(v.Doc()) != want {
				t.Fatal("another document")
			}
		}
	}
}

// P14.4: any lists, with repetitions and hashes of nothing
func TestFoldByDefinition(t *testing.T) {
	r := rand.New(rand.NewSource(6))
	some := func(w *world, most int) []api.Hash {
		var l []api.Hash
		for range r.Intn(most + 1) {
			l = append(l, pick(r, pick(r, w.made...), pick(r, w.made...), api.Hash{byte(r.Intn(3))}))
		}
		return l
	}
	for range 60 {
		w := anyWorld(t, r, 1+r.Intn(40))
		for range 5 {
			l, void := some(w, 5), some(w, 8)
			was, wasVoid := slices.Clone(l), slices.Clone(void)
			got, want := w.tell(Fold(w.g, l, void)), w.tell(w.document(l, void))
			if got != want {
				t.Fatalf("Fold tells\n%s, not\n%s", got, want)
			}
			if !slices.Equal(l, was) || !slices.Equal(void, wasVoid) {
				t.Fatal("a list that was handed in has changed")
			}
		}
		if d := Fold(w.g, w.made, w.made); d.Objects() != 1 || len(d.Keys(api.Id{})) > 0 {
			t.Error("all void")
		}
		if d := Fold(w.g, nil, nil); d.Objects() != 1 || len(d.Keys(api.Id{})) > 0 {
			t.Error("of none")
		}
	}
}

// P3, P14.3, P14.4: what is answered is new
func TestMemory(t *testing.T) {
	w, row, x := six(t)
	v := fresh(t, 1, 3)
	take(t, v, w.g, row...)
	was := w.state(v)
	spoilDoc := func(d *doc.Doc) {
		for i, h := range row {
			d.Do(api.Op{Id: api.Id{Hash: alien, N: i + 1}, Act: api.Delete, Key: "abcde"[i : i+1]}, func(id api.Id) bool { return id.Hash == h })
		}
	}
	for range 2 {
		l := v.Log()
		clear(l[:cap(l)])
		k := v.Kept()
		clear(k[:cap(k)])
		spoilDoc(v.Doc())
		spoilDoc(Fold(w.g, row, nil))
	}
	if !was.same(w.state(v)) {
		t.Error("what is done to an answer shows")
	}
	take(t, v, w.g, x)
	before := w.tell(v.Doc())
	spoilDoc(v.Doc())
	if before != w.tell(v.Doc()) || before != w.tell(Fold(w.g, v.Log(), nil)) {
		t.Error("what is done to an answer shows")
	}
}

// P14.3: a document that was answered stays as it is when more is put in
func TestDocStays(t *testing.T) {
	r := rand.New(rand.NewSource(7))
	w := anyWorld(t, r, 30)
	v := fresh(t, 2, 4)
	var docs []*doc.Doc
	var told []string
	for _, h := range w.anyRow(r, w.made) {
		take(t, v, w.g, h)
		docs = append(docs, v.Doc())
		told = append(told, w.tell(v.Doc()))
	}
	for i, d := range docs {
		if w.tell(d) != told[i] {
			t.Fatalf("the document of %d updates has changed", i+1)
		}
	}
}

// P1: who reads the updates has ended when the call answers
func TestNobodyIsLeft(t *testing.T) {
	w, row, x := six(t)
	before := runtime.NumGoroutine()
	for range 200 {
		v := fresh(t, 2, 2)
		take(t, v, w.g, row...)
		take(t, v, w.g, x)
		Fold(w.g, row, nil)
	}
	for range 1000 {
		if runtime.NumGoroutine() <= before {
			return
		}
		runtime.Gosched()
	}
	t.Errorf("%d goroutines, %d ahead", runtime.NumGoroutine(), before)
}

// P14.6, P6: a long row, and late ones into it
func TestLong(t *testing.T) {
	const long, every = 1500, 32
	w := newWorld()
	var row []api.Hash
	for i := range long {
		row = append(row, w.add(t, 1, row[max(0, i-1):i], put("k", i), put("n", i)))
	}
	v := fresh(t, every, api.MaxKeep)
	if n := take(t, v, w.g, row...); n != long {
		t.Errorf("%d steps in order", n)
	}
	for i := long - 1; i > 0; i -= 97 {
		h := w.add(t, 2+i, row[i:i+1], put("late", i))
		n := take(t, v, w.g, h)
		at := slices.Index(v.Log(), h)
		if k := len(v.Log()) - 1 - at; n > k+every || n > 2*k+1 {
			t.Errorf("%d steps with %d behind", n, k)
		}
	}
	late, _ := v.Doc().Top(api.Place{Key: "late"})
	if !slices.Equal(v.Log(), w.g.Order()) || late.Value.N == 0 || len(v.Doc().Entries(api.Place{Key: "k"})) != 1 {
		t.Error("the document")
	}
}
