package orphans

import (
	"math"
	"math/rand"
	"reflect"
	"slices"
	"testing"

	"estuary/api"
	"estuary/digest"
	"estuary/update"
)

// alien is a hash of nothing.
var alien = api.Hash{7, 7, 7}

func up(l ...api.Hash) []api.Hash {
	l = slices.Clone(l)
	slices.SortFunc(l, digest.Compare)
	return slices.Compact(l)
}

func list(l ...api.Hash) []api.Hash { return l }

// hash is one of those that no update of these tests has as its id.
func hash(n int) api.Hash { return api.Hash{0, 0, 0, 0, byte(n >> 8), byte(n)} }

// after is an update with these parents, and its id; n makes it another one.
func after(t *testing.T, n int, parents ...api.Hash) (api.Update, api.Hash) {
	t.Helper()
	u := api.Update{Author: 1, Seq: 2, Time: int64(n), Parents: up(parents...)}
	id, why := update.Id(u)
	if why != api.OK {
		t.Fatalf("not a right update: %d", why)
	}
	return u, id
}

func pool(t *testing.T, most int) *Pool {
	t.Helper()
	p, why := New(most)
	if why != api.OK || p == nil {
		t.Fatalf("New(%d) = %d", most, why)
	}
	return p
}

func put(t *testing.T, p *Pool, u api.Update, lacks ...api.Hash) {
	t.Helper()
	if why := p.Put(u, lacks); why != api.OK {
		t.Fatalf("Put(%v): %d", u, why)
	}
}

func ids(t *testing.T, l []api.Update) []api.Hash {
	t.Helper()
	var out []api.Hash
	for _, u := range l {
		id, why := update.Id(u)
		if why != api.OK {
			t.Fatalf("an update that is not right: %d", why)
		}
		out = append(out, id)
	}
	return out
}

func is(t *testing.T, what string, got []api.Hash, want ...api.Hash) {
	t.Helper()
	if !slices.Equal(got, want) {
		t.Errorf("%s = %x, not %x", what, got, want)
	}
}

// P7.1
func TestNew(t *testing.T) {
	for _, most := range []int{0, 1, 2, api.MaxOrphans - 1, api.MaxOrphans} {
		p := pool(t, most)
		if p.Len() != 0 || len(p.Held()) > 0 || len(p.Missing()) > 0 || p.Has(alien) || len(p.Lacks(alien)) > 0 || len(p.Come(alien)) > 0 || len(p.Drop(alien)) > 0 {
			t.Errorf("something waits in a new pool of %d", most)
		}
	}
	for _, most := range []int{-1, api.MaxOrphans + 1, math.MinInt, math.MaxInt} {
		if p, why := New(most); p != nil || why != api.ErrRange {
			t.Errorf("New(%d) = %v, %d", most, p, why)
		}
	}
}

// P7.2 to P7.5, the first two examples
func TestExamples(t *testing.T) {
	x := hash(1)
	a, ha := after(t, 0, x)
	b, hb := after(t, 0, ha)
	p := pool(t, 2)
	put(t, p, a, x)
	is(t, "Missing", p.Missing(), x)
	put(t, p, b, ha)
	is(t, "Missing", p.Missing(), x)
	f := p.Fork()
	if l := p.Come(x); len(l) != 1 || !update.Same(l[0], a) {
		t.Errorf("Come(x) = %v", l)
	}
	is(t, "Missing", p.Missing(), ha)
	if l := p.Come(ha); len(l) != 1 || !update.Same(l[0], b) || p.Len() != 0 {
		t.Errorf("Come(a) = %v", l)
	}
	is(t, "Drop(x)", f.Drop(x), up(ha, hb)...)
	if f.Len() != 0 {
		t.Error("what was dropped waits")
	}
	small := pool(t, 1)
	put(t, small, a, x)
	if small.Put(b, list(ha)) != api.ErrFull || small.Put(a, list(x)) != api.ErrKnown || small.Put(b, list(x)) != api.ErrWhole {
		t.Error("Put where there is no room")
	}
	is(t, "Held", small.Held(), ha)
}

// P7.2, the third example
func TestPutTellsTheFirst(t *testing.T) {
	x, y := hash(1), hash(2)
	a, ha := after(t, 0, x, y)
	b, _ := after(t, 1, x, y)
	alone, _ := after(t, 2)
	bad := b
	bad.Note = "\n"
	falls := b
	falls.Parents = list(y, x)
	p := pool(t, 1)
	free := pool(t, 2)
	put(t, p, a, y)
	put(t, free, a, y)
	for name, c := range map[string]struct {
		p     *Pool
		u     api.Update
		lacks []api.Hash
		why   api.Errno
	}{
		"not right, and full":         {p, bad, list(x), api.ErrNote},
		"not right, and whole":        {free, bad, nil, api.ErrNote},
		"parents that fall":           {free, falls, list(x), api.ErrParents},
		"nothing of an update":        {free, api.Update{}, list(x), api.ErrAuthor},
		"known":                       {free, a, list(y), api.ErrKnown},
		"known, lacks others":         {free, a, list(x), api.ErrKnown},
		"known, and full":             {p, a, list(y), api.ErrKnown},
		"known, and whole":            {free, a, nil, api.ErrKnown},
		"known, whole and full":       {p, a, list(alien), api.ErrKnown},
		"whole":                       {free, b, nil, api.ErrWhole},
		"whole, with others":          {free, b, list(alien, ha, api.Hash{}), api.ErrWhole},
		"whole, and full":             {p, b, list(alien), api.ErrWhole},
		"without parents":             {free, alone, list(x, y), api.ErrWhole},
		"full":                        {p, b, list(x), api.ErrFull},
		"full, lacks all":             {p, b, list(x, y, alien), api.ErrFull},
		"full, where there is no one": {pool(t, 0), b, list(x), api.ErrFull},
	} {
		before := tell(c.p)
		if why := c.p.Put(c.u, c.lacks); why != c.why {
			t.Errorf("%s: %d, not %d", name, why, c.why)
		}
		if !reflect.DeepEqual(tell(c.p), before) {
			t.Errorf("%s: an update that was refused changed the pool", name)
		}
	}
	is(t, "Lacks", p.Lacks(ha), y)
	put(t, free, b, x)
}

// P7.2, P7.5, P4: lists in any order, with repetitions and with hashes of nothing
func TestLacks(t *testing.T) {
	var parents []api.Hash
	for n := range api.MaxParents {
		parents = append(parents, hash(n+1))
	}
	u, id := after(t, 0, parents...)
	p := pool(t, 4)
	put(t, p, u, parents[6], alien, parents[2], parents[6], api.Hash{}, id, parents[0])
	is(t, "Lacks", p.Lacks(id), parents[0], parents[2], parents[6])
	is(t, "Missing", p.Missing(), parents[0], parents[2], parents[6])
	all, hall := after(t, 1, parents...)
	put(t, p, all, append(slices.Clone(parents), parents...)...)
	is(t, "Lacks of all", p.Lacks(hall), parents...)
	is(t, "Missing", p.Missing(), parents...)
	is(t, "Lacks of what does not wait", p.Lacks(alien))
	if !p.Has(id) || p.Has(parents[0]) || p.Has(alien) || p.Len() != 2 {
		t.Error("Has, Len")
	}
	is(t, "Held", p.Held(), up(id, hall)...)
	for _, h := range list(parents[1], alien, parents[2], parents[2], parents[6]) {
		if len(p.Come(h)) > 0 {
			t.Errorf("something came out by %x", h)
		}
	}
	is(t, "Lacks", p.Lacks(id), parents[0])
	if l := p.Come(parents[0]); len(l) != 1 || !update.Same(l[0], u) {
		t.Errorf("Come = %v", l)
	}
	is(t, "Lacks", p.Lacks(id))
	is(t, "Lacks of all", p.Lacks(hall), parents[3], parents[4], parents[5], parents[7])
}

// P7.3: what came ahead of a Put counts for nothing
func TestOnlyWhatComesSince(t *testing.T) {
	x := hash(1)
	p := pool(t, 1)
	p.Come(x)
	u, id := after(t, 0, x)
	put(t, p, u, x)
	is(t, "Lacks", p.Lacks(id), x)
	if len(p.Come(x)) != 1 {
		t.Error("it did not come out")
	}
	put(t, p, u, x)
	is(t, "Lacks, once more", p.Lacks(id), x)
}

// P7.3: who lacked it and lacks nothing now, by rising id; one that waits may be told to have come
func TestCome(t *testing.T) {
	x, y := hash(1), hash(2)
	p := pool(t, 20)
	var free []api.Hash
	for n := range 9 {
		u, id := after(t, n, x)
		put(t, p, u, x)
		free = append(free, id)
	}
	both, hboth := after(t, 0, x, y)
	other, hother := after(t, 0, y)
	put(t, p, both, x, y)
	put(t, p, other, y)
	mine, hmine := after(t, 0, free[0], hother)
	put(t, p, mine, hother)
	is(t, "Missing", p.Missing(), x, y)
	if l := p.Come(hother); len(l) != 1 || !update.Same(l[0], mine) || !p.Has(hother) || p.Has(hmine) {
		t.Errorf("Come of one that waits = %v", l)
	}
	is(t, "Come(x)", ids(t, p.Come(x)), up(free...)...)
	is(t, "Held", p.Held(), up(hboth, hother)...)
	is(t, "Lacks", p.Lacks(hboth), y)
	is(t, "Come(y)", ids(t, p.Come(y)), up(hboth, hother)...)
	if p.Len() != 0 || len(p.Missing()) > 0 || len(p.Come(y)) > 0 {
		t.Error("something waits")
	}
}

// P7.4: one that waits goes with all behind it, and what it waits for stays; a hash may be lacked by many, over several ways
func TestDrop(t *testing.T) {
	x, y := hash(1), hash(2)
	a, ha := after(t, 0, x)
	b, hb := after(t, 0, ha)
	c, hc := after(t, 1, ha)
	d, hd := after(t, 0, hb, hc, y)
	e, he := after(t, 0, y)
	there, hthere := after(t, 0, hd, x)
	filled := func() *Pool {
		p := pool(t, 9)
		put(t, p, a, x)
		put(t, p, b, ha)
		put(t, p, c, ha)
		put(t, p, d, hb, hc, y)
		put(t, p, e, y)
		put(t, p, there, x) // hd it does not lack, though it is a parent
		return p
	}
	for name, q := range map[string]struct {
		h    api.Hash
		gone []api.Hash
	}{
		"the first":       {x, up(ha, hb, hc, hd, hthere)},
		"another":         {y, up(hd, he)},
		"one that waits":  {ha, up(ha, hb, hc, hd)},
		"one in between":  {hb, up(hb, hd)},
		"the last":        {hd, list(hd)},
		"one by itself":   {he, list(he)},
		"none":            {alien, nil},
		"the zero hash":   {api.Hash{}, nil},
		"what is its own": {hthere, list(hthere)},
	} {
		p := filled()
		all := p.Held()
		is(t, name, p.Drop(q.h), q.gone...)
		rest := slices.DeleteFunc(all, func(h api.Hash) bool { return slices.Contains(q.gone, h) })
		is(t, name+": Held", p.Held(), rest...)
		is(t, name+": again", p.Drop(q.h))
	}
	p := filled()
	p.Come(ha)
	is(t, "Drop of what some lack no more", p.Drop(ha), ha)
	is(t, "what waits then", p.Held(), up(hd, he, hthere)...)
}

// P7.4, P7.6: the room is all used, by a row in which each waits for the one ahead of it
func TestFullRow(t *testing.T) {
	p := pool(t, api.MaxOrphans)
	first := hash(1)
	var all []api.Hash
	at := first
	for range api.MaxOrphans {
		u, id := after(t, 0, at)
		put(t, p, u, at)
		all = append(all, id)
		at = id
	}
	is(t, "Missing", p.Missing(), first)
	more, _ := after(t, 1, first)
	if p.Put(more, list(first)) != api.ErrFull || p.Len() != api.MaxOrphans {
		t.Error("more than may be")
	}
	f := p.Fork()
	is(t, "Drop in the middle", f.Drop(all[100]), up(all[100:]...)...)
	is(t, "what is left", f.Held(), up(all[:100]...)...)
	put(t, f, more, first)
	is(t, "Drop of all", p.Drop(first), up(all...)...)
	put(t, p, more, first)
	if p.Len() != 1 {
		t.Errorf("%d wait", p.Len())
	}
}

// told is all that a pool tells.
type told struct {
	Len           int
	Held, Missing []api.Hash
	Lacks         [][]api.Hash
}

func tell(p *Pool) told {
	all := told{Len: p.Len(), Held: p.Held(), Missing: p.Missing()}
	for _, h := range append(p.Held(), alien) {
		all.Lacks = append(all.Lacks, p.Lacks(h))
	}
	return all
}

// model is what waits, told by the document's definitions.
type model struct {
	most  int
	waits map[api.Hash]map[api.Hash]bool
}

func (m *model) put(id api.Hash, u api.Update, lacks []api.Hash) api.Errno {
	set := map[api.Hash]bool{}
	for _, h := range lacks {
		if slices.Contains(u.Parents, h) {
			set[h] = true
		}
	}
	_, known := m.waits[id]
	switch {
	case known:
		return api.ErrKnown
	case len(set) == 0:
		return api.ErrWhole
	case len(m.waits) == m.most:
		return api.ErrFull
	}
	m.waits[id] = set
	return api.OK
}

func (m *model) come(h api.Hash) []api.Hash {
	var out []api.Hash
	for id, set := range m.waits {
		if set[h] && len(set) == 1 {
			out = append(out, id)
			delete(m.waits, id)
		}
		delete(set, h)
	}
	return up(out...)
}

// waitsFor is the chapter's definition.
func (m *model) waitsFor(id, h api.Hash) bool {
	for x := range m.waits[id] {
		if _, waits := m.waits[x]; x == h || waits && m.waitsFor(x, h) {
			return true
		}
	}
	return false
}

func (m *model) drop(h api.Hash) []api.Hash {
	var out []api.Hash
	for id := range m.waits {
		if id == h || m.waitsFor(id, h) {
			out = append(out, id)
		}
	}
	for _, id := range out {
		delete(m.waits, id)
	}
	return up(out...)
}

func keys(set map[api.Hash]bool) []api.Hash {
	var l []api.Hash
	for h := range set {
		l = append(l, h)
	}
	return up(l...)
}

func (m *model) holdAgainst(t *testing.T, p *Pool) {
	t.Helper()
	held, missing := map[api.Hash]bool{}, map[api.Hash]bool{}
	for id, set := range m.waits {
		held[id] = true
		is(t, "Lacks", p.Lacks(id), keys(set)...)
		if !p.Has(id) || len(p.Lacks(id)) == 0 {
			t.Fatalf("%x waits", id)
		}
		for h := range set {
			if _, waits := m.waits[h]; !waits {
				missing[h] = true
			}
		}
	}
	is(t, "Held", p.Held(), keys(held)...)
	is(t, "Missing", p.Missing(), keys(missing)...)
	if p.Len() != len(held) || p.Len() > m.most || len(missing) > 0 && p.Len() == 0 {
		t.Fatalf("Len = %d", p.Len())
	}
}

func (m *model) fork() *model {
	f := &model{m.most, map[api.Hash]map[api.Hash]bool{}}
	for id, set := range m.waits {
		f.waits[id] = map[api.Hash]bool{}
		for h := range set {
			f.waits[id][h] = true
		}
	}
	return f
}

// somewhere are updates whose parents are some of those ahead of them, or hashes of nothing.
func somewhere(t *testing.T, r *rand.Rand, size int) ([]api.Update, []api.Hash) {
	t.Helper()
	made, known := []api.Update{}, []api.Hash{}
	names := list(hash(1), hash(2), hash(3))
	for n := range size {
		var parents []api.Hash
		for range 1 + r.Intn(4) {
			parents = append(parents, names[r.Intn(len(names))])
		}
		u, id := after(t, n, parents...)
		made, known, names = append(made, u), append(known, id), append(names, id)
	}
	return made, known
}

// P7.2 to P7.7, P5: scripts by chance, held against the model; forks go their own way
func TestByDefinition(t *testing.T) {
	r := rand.New(rand.NewSource(1))
	for range 60 {
		made, known := somewhere(t, r, 12)
		hashes := append(list(hash(1), hash(2), hash(3), alien), known...)
		most := r.Intn(10)
		pools, models := []*Pool{pool(t, most)}, []*model{{most, map[api.Hash]map[api.Hash]bool{}}}
		for range 80 {
			at := r.Intn(len(pools))
			p, m := pools[at], models[at]
			h := hashes[r.Intn(len(hashes))]
			switch r.Intn(10) {
			case 0:
				is(t, "Drop", p.Drop(h), m.drop(h)...)
			case 1, 2, 3:
				is(t, "Come", ids(t, p.Come(h)), m.come(h)...)
			case 4:
				if len(pools) < 4 {
					pools, models = append(pools, p.Fork()), append(models, m.fork())
				}
			default:
				n := r.Intn(len(made))
				lacks := list(h, h)
				for _, x := range made[n].Parents {
					if r.Intn(3) > 0 {
						lacks = append(lacks, x)
					}
				}
				if got, want := p.Put(made[n], lacks), m.put(known[n], made[n], lacks); got != want {
					t.Fatalf("Put = %d, not %d", got, want)
				}
			}
			for i := range pools {
				models[i].holdAgainst(t, pools[i])
			}
			if t.Failed() {
				return
			}
		}
	}
}

// P7.8: in whatever order they are put, and told to have come, all come out, each once, and none ahead of what it lacked
func TestAllComeOut(t *testing.T) {
	r := rand.New(rand.NewSource(2))
	for range 50 {
		made, known := somewhere(t, r, 30)
		p := pool(t, 30)
		came, out := map[api.Hash]bool{}, map[api.Hash]int{}
		there := list(hash(1), hash(2), hash(3)) // and not told yet
		outside := r.Perm(len(made))
		take := func(u api.Update, id api.Hash) {
			for _, h := range u.Parents {
				if !came[h] {
					t.Fatalf("%x came out ahead of a parent", id)
				}
			}
			out[id]++
			there = append(there, id)
		}
		for len(there)+len(outside) > 0 {
			if len(there) == 0 || len(outside) > 0 && r.Intn(2) == 0 {
				n := outside[0]
				outside = outside[1:]
				lacks := slices.DeleteFunc(slices.Clone(made[n].Parents), func(h api.Hash) bool { return came[h] })
				why := p.Put(made[n], lacks)
				if (why == api.OK) != (len(lacks) > 0) || why != api.OK && why != api.ErrWhole {
					t.Fatalf("Put = %d", why)
				}
				if why == api.ErrWhole {
					take(made[n], known[n])
				}
				continue
			}
			at := r.Intn(len(there))
			h := there[at]
			there = slices.Delete(there, at, at+1)
			came[h] = true
			for _, u := range p.Come(h) {
				take(u, ids(t, []api.Update{u})[0])
			}
		}
		if p.Len() != 0 || len(out) != len(made) || len(p.Missing()) > 0 {
			t.Fatalf("%d wait, %d came out", p.Len(), len(out))
		}
		for id, n := range out {
			if n != 1 {
				t.Fatalf("%x came out %d times", id, n)
			}
		}
	}
}

// P1
func TestNil(t *testing.T) {
	var p *Pool
	u, id := after(t, 0, hash(1))
	if p.Fork() != nil || p.Len() != 0 || p.Has(id) || len(p.Held()) > 0 || len(p.Lacks(id)) > 0 || len(p.Missing()) > 0 || len(p.Come(id)) > 0 || len(p.Drop(id)) > 0 {
		t.Error("a nil pool has something")
	}
	if p.Put(u, u.Parents) != api.ErrNil || p.Put(api.Update{}, nil) != api.ErrNil {
		t.Error("Put")
	}
	q := pool(t, 1)
	if q.Put(api.Update{}, nil) != api.ErrAuthor || q.Put(u, nil) != api.ErrWhole {
		t.Error("nil lists")
	}
}

// P3
func TestMemory(t *testing.T) {
	spoil := func(l []api.Hash) {
		l = l[:cap(l)]
		for i := range l {
			l[i] = alien
		}
	}
	spoilUpdate := func(u api.Update) {
		spoil(u.Parents)
		edits := u.Edits[:cap(u.Edits)]
		for i := range edits {
			edits[i].Who = 77
		}
	}
	x, y := hash(1), hash(2)
	u := api.Update{Author: 1, Seq: 2, Parents: append(make([]api.Hash, 0, 4), x, y), Edits: append(make([]api.Edit, 0, 3), api.Edit{Act: api.Revoke, Who: 5})}
	kept := update.Copy(u)
	id, _ := update.Id(u)
	lacks := append(list(y, alien, x), alien, x)[:3]
	before := slices.Clone(lacks[:5])
	p := pool(t, 3)
	put(t, p, u, lacks...)
	if !slices.Equal(lacks[:5], before) || !update.Same(u, kept) {
		t.Error("what was handed in was changed")
	}
	spoil(lacks)
	spoilUpdate(u)
	other, _ := after(t, 0, id)
	put(t, p, other, id)
	want := tell(p)
	is(t, "Lacks", p.Lacks(id), x, y)
	for range 2 {
		for _, answer := range [][]api.Hash{p.Held(), p.Missing(), p.Lacks(id)} {
			spoil(answer)
		}
	}
	f, g := p.Fork(), p.Fork()
	spoil(f.Drop(x))
	if !reflect.DeepEqual(tell(p), want) || !reflect.DeepEqual(tell(g), want) {
		t.Error("what is done to an answer, or to a fork, shows in the pool")
	}
	g.Come(x)
	is(t, "Lacks in the fork", g.Lacks(id), y)
	is(t, "Lacks", p.Lacks(id), x, y)
	p.Come(x)
	for _, one := range []*Pool{g, p.Fork(), p} {
		l := one.Come(y)
		if len(l) != 1 || !update.Same(l[0], kept) {
			t.Fatalf("Come = %v", l)
		}
		spoilUpdate(l[0])
	}
}
