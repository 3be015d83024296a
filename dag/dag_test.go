package dag

import (
	"crypto/sha256"
	"math"
	"math/rand"
	"reflect"
	"slices"
	"testing"

	"estuary/api"
	"estuary/digest"
	"estuary/update"
)

// alien is a hash of nothing.
var alien = api.Hash{7, 7, 7}

func up(l ...api.Hash) []api.Hash {
	l = slices.Clone(l)
	slices.SortFunc(l, digest.Compare)
	return slices.Compact(l)
}

func list(l ...api.Hash) []api.Hash { return l }

func add(t *testing.T, g *Graph, u api.Update) api.Hash {
	t.Helper()
	u.Parents = up(u.Parents...)
	h, why := g.Add(u)
	if why != api.OK {
		t.Fatalf("Add(%v): %d", u, why)
	}
	return h
}

// four is the graph of the examples.
func four(t *testing.T) (g *Graph, a, b, c, d api.Hash) {
	t.Helper()
	g = New()
	a = add(t, g, api.Update{Author: 1, Seq: 1})
	b = add(t, g, api.Update{Author: 2, Seq: 1})
	c = add(t, g, api.Update{Author: 1, Seq: 2, Parents: list(a)})
	d = add(t, g, api.Update{Author: 2, Seq: 2, Parents: list(a, b)})
	return g, a, b, c, d
}

// P6.2 to P6.5, the first and third example
func TestExamples(t *testing.T) {
	g, a, b, c, d := four(t)
	if g.Depth(a) != 1 || g.Depth(b) != 1 || g.Depth(c) != 2 || g.Depth(d) != 2 {
		t.Error("depths")
	}
	if !slices.Equal(g.Heads(), up(c, d)) {
		t.Error("heads")
	}
	if !g.Before(a, c) || !g.Before(a, d) || g.Before(b, c) || g.Before(a, a) || g.Before(c, a) {
		t.Error("Before")
	}
	if !slices.Equal(g.Meet(list(c), list(d)), list(a)) || !slices.Equal(g.Tops(list(a, b, c)), up(b, c)) {
		t.Error("Meet, Tops")
	}
	if g.Next(1, list(d)) != 2 || g.Next(1, list(c)) != 3 || g.Next(3, list(c, d)) != 1 {
		t.Error("Next")
	}
	e := add(t, g, api.Update{Author: 1, Seq: 2, Parents: list(a), Note: "other"})
	if !slices.Equal(g.Kids(a), up(c, d, e)) || g.Next(1, list(c, e)) != 3 {
		t.Error("a fork")
	}
}

// P6.2, the second example
func TestCheckTellsTheFirst(t *testing.T) {
	g, a, b, c, _ := four(t)
	before := tell(g)
	bad := api.Edit{Act: api.Prune}
	for name, x := range map[string]struct {
		u   api.Update
		why api.Errno
	}{
		"not right, known or not":  {api.Update{Author: 1, Seq: 1, Note: "\n"}, api.ErrNote},
		"not right, a parent":      {api.Update{Author: 0, Seq: 1, Parents: list(alien)}, api.ErrAuthor},
		"not right, the turn":      {api.Update{Author: 1, Seq: 2, Edits: []api.Edit{bad}}, api.ErrField},
		"parents that fall":        {api.Update{Author: 3, Seq: 1, Parents: list(higher(a, b), lower(a, b))}, api.ErrParents},
		"known":                    {api.Update{Author: 1, Seq: 1}, api.ErrKnown},
		"known, with parents":      {api.Update{Author: 1, Seq: 2, Parents: list(a)}, api.ErrKnown},
		"a parent":                 {api.Update{Author: 1, Seq: 1, Parents: list(alien)}, api.ErrParent},
		"a parent, and the turn":   {api.Update{Author: 1, Seq: 2, Parents: list(alien)}, api.ErrParent},
		"a parent of two":          {api.Update{Author: 1, Seq: 2, Parents: up(a, alien)}, api.ErrParent},
		"Seq 2 without parents":    {api.Update{Author: 1, Seq: 2}, api.ErrTurn},
		"Seq 1 behind Seq 1":       {api.Update{Author: 1, Seq: 1, Parents: list(a)}, api.ErrTurn},
		"Seq 3 behind Seq 1":       {api.Update{Author: 1, Seq: 3, Parents: list(a)}, api.ErrTurn},
		"Seq 2 behind Seq 2":       {api.Update{Author: 1, Seq: 2, Parents: list(c), Note: "n"}, api.ErrTurn},
		"Seq 2 behind another's 1": {api.Update{Author: 3, Seq: 2, Parents: list(a)}, api.ErrTurn},
	} {
		if why := g.Check(x.u); why != x.why {
			t.Errorf("%s: Check = %d, not %d", name, why, x.why)
		}
		if h, why := g.Add(x.u); why != x.why || h != (api.Hash{}) {
			t.Errorf("%s: Add = %x, %d", name, h, why)
		}
	}
	if !reflect.DeepEqual(tell(g), before) {
		t.Error("an update that was refused changed the graph")
	}
	for name, u := range map[string]api.Update{
		"a third author":        {Author: 3, Seq: 1},
		"behind all":            {Author: 3, Seq: 1, Parents: up(a, b, c)},
		"a fork from the start": {Author: 1, Seq: 1, Note: "n"},
		"a fork behind another": {Author: 2, Seq: 1, Parents: list(a)},
		"the next one":          {Author: 1, Seq: 3, Parents: list(c)},
	} {
		if why := g.Check(u); why != api.OK {
			t.Errorf("%s: %d", name, why)
		}
	}
	if !reflect.DeepEqual(tell(g), before) {
		t.Error("Check changed the graph")
	}
}

func higher(a, b api.Hash) api.Hash { return up(a, b)[1] }
func lower(a, b api.Hash) api.Hash  { return up(a, b)[0] }

// told is all that a graph answers when it is asked for each update by itself.
type told struct {
	Len          int
	Order, Heads []api.Hash
	Of           map[api.Hash]toldOf
}

type toldOf struct {
	Update             api.Update
	Depth, Place       int
	Kids, Past, Before []api.Hash
	Next               [5]int
}

func tell(g *Graph) told {
	all := told{Len: g.Len(), Order: g.Order(), Heads: g.Heads(), Of: map[api.Hash]toldOf{}}
	for _, h := range append(g.Order(), alien) {
		u, _ := g.Update(h)
		of := toldOf{Update: u, Depth: g.Depth(h), Place: g.Place(h), Kids: g.Kids(h), Past: g.Past(list(h))}
		for _, x := range g.Order() {
			if g.Before(x, h) {
				of.Before = append(of.Before, x)
			}
		}
		for author := range of.Next {
			of.Next[author] = g.Next(author, list(h))
		}
		all.Of[h] = of
	}
	return all
}

// model is updates by their ids; all that is asked of it is told by the document's definitions, and slowly.
type model map[api.Hash]api.Update

func (m model) ancestors(h api.Hash) map[api.Hash]bool {
	all := map[api.Hash]bool{}
	for _, p := range m[h].Parents {
		all[p] = true
		for x := range m.ancestors(p) {
			all[x] = true
		}
	}
	return all
}

func (m model) depth(h api.Hash) int {
	deepest := 0
	for _, p := range m[h].Parents {
		deepest = max(deepest, m.depth(p))
	}
	return deepest + 1
}

// facts are what a model tells of each update, told once.
type facts struct {
	model
	before map[api.Hash]map[api.Hash]bool
	deep   map[api.Hash]int
}

func (m model) facts() facts {
	f := facts{m, map[api.Hash]map[api.Hash]bool{}, map[api.Hash]int{}}
	for h := range m {
		f.before[h] = m.ancestors(h)
		f.deep[h] = m.depth(h)
	}
	return f
}

func (f facts) less(a, b api.Hash) bool {
	if f.deep[a] != f.deep[b] {
		return f.deep[a] < f.deep[b]
	}
	return string(a[:]) < string(b[:])
}

// inOrder is a set as a list in the order.
func (f facts) inOrder(set map[api.Hash]bool) []api.Hash {
	var l []api.Hash
	for h := range set {
		l = append(l, h)
	}
	slices.SortFunc(l, func(a, b api.Hash) int {
		if f.less(a, b) {
			return -1
		}
		return 1
	})
	return l
}

func (f facts) past(l []api.Hash) map[api.Hash]bool {
	set := map[api.Hash]bool{}
	for _, h := range l {
		if _, in := f.model[h]; in {
			set[h] = true
			for x := range f.before[h] {
				set[x] = true
			}
		}
	}
	return set
}

func (f facts) tops(set map[api.Hash]bool) []api.Hash {
	var l []api.Hash
	for h := range set {
		top := true
		for x := range set {
			top = top && !f.before[x][h]
		}
		if top {
			l = append(l, h)
		}
	}
	return up(l...)
}

func (f facts) next(author int, parents []api.Hash) int {
	greatest := 0
	for h := range f.past(parents) {
		if f.model[h].Author == author {
			greatest = max(greatest, f.model[h].Seq)
		}
	}
	return greatest + 1
}

// in are those of a list that are in, as a set.
func (f facts) in(l []api.Hash) map[api.Hash]bool {
	set := map[api.Hash]bool{}
	for _, h := range l {
		if _, in := f.model[h]; in {
			set[h] = true
		}
	}
	return set
}

// randomGraph is a graph of n updates by chance, with forks, and parents that are ancestors of one another.
func randomGraph(t *testing.T, r *rand.Rand, n int) (*Graph, []api.Update) {
	t.Helper()
	g := New()
	var ids []api.Hash
	var made []api.Update
	for len(ids) < n {
		u := api.Update{Author: 1 + r.Intn(4), Note: string(rune('a' + r.Intn(26))), Time: int64(r.Intn(100))}
		for range r.Intn(4) {
			if len(ids) > 0 {
				u.Parents = append(u.Parents, ids[max(0, len(ids)-1-r.Intn(12))])
			}
		}
		u.Parents = up(u.Parents...)
		u.Seq = g.Next(u.Author, u.Parents)
		h, why := g.Add(u)
		if why == api.ErrKnown {
			continue
		}
		if why != api.OK {
			t.Fatalf("Add: %d", why)
		}
		ids, made = append(ids, h), append(made, u)
	}
	return g, made
}

func modelOf(t *testing.T, l []api.Update) model {
	t.Helper()
	m := model{}
	for _, u := range l {
		b, why := update.Encode(u)
		if why != api.OK {
			t.Fatal(why)
		}
		m[sha256.Sum256(b)] = u
	}
	return m
}

// some is a list of hashes by chance, with repetitions and with hashes of nothing.
func some(r *rand.Rand, from []api.Hash) []api.Hash {
	var l []api.Hash
	for range r.Intn(6) {
		switch r.Intn(6) {
		case 0:
			l = append(l, api.Hash{byte(r.Intn(3))})
		case 1:
			if len(l) > 0 {
				l = append(l, l[0])
			}
		default:
			l = append(l, from[r.Intn(len(from))])
		}
	}
	return l
}

// P6.3, P6.4
func TestEachUpdateByDefinition(t *testing.T) {
	r := rand.New(rand.NewSource(1))
	for _, size := range []int{1, 2, 5, 20, 63, 64, 65, 66, 128, 130} {
		g, made := randomGraph(t, r, size)
		f := modelOf(t, made).facts()
		order := f.inOrder(f.past(g.Order()))
		if g.Len() != size || len(f.model) != size || !slices.Equal(g.Order(), order) {
			t.Fatalf("%d updates: Len %d, Order %x", size, g.Len(), g.Order())
		}
		if !slices.Equal(g.Heads(), f.tops(f.past(order))) {
			t.Errorf("Heads = %x", g.Heads())
		}
		for i, h := range order {
			u, ok := g.Update(h)
			if !ok || !update.Same(u, f.model[h]) || !g.Has(h) || g.Depth(h) != f.deep[h] || g.Place(h) != i {
				t.Fatalf("%x: %v, %v, depth %d, place %d", h, u, ok, g.Depth(h), g.Place(h))
			}
			var kids []api.Hash
			for x, kid := range f.model {
				if slices.Contains(kid.Parents, h) {
					kids = append(kids, x)
				}
			}
			if !slices.Equal(g.Kids(h), up(kids...)) {
				t.Fatalf("Kids = %x", g.Kids(h))
			}
			for j, x := range order {
				if g.Before(x, h) != f.before[h][x] || g.Less(x, h) != (j < i) {
					t.Fatalf("%x, %x: Before %v, Less %v", x, h, g.Before(x, h), g.Less(x, h))
				}
			}
		}
	}
}

// P6.5, P6.8, P4
func TestListsByDefinition(t *testing.T) {
	r := rand.New(rand.NewSource(2))
	for _, size := range []int{1, 3, 20, 64, 65, 129} {
		g, made := randomGraph(t, r, size)
		f := modelOf(t, made).facts()
		for range 200 {
			a, b := some(r, g.Order()), some(r, g.Order())
			pastA, pastB := f.past(a), f.past(b)
			common := map[api.Hash]bool{}
			for h := range pastA {
				if pastB[h] {
					common[h] = true
				}
			}
			var lacks []api.Hash
			for _, h := range a {
				if _, in := f.model[h]; !in {
					lacks = append(lacks, h)
				}
			}
			if got := g.Past(a); !slices.Equal(got, f.inOrder(pastA)) {
				t.Fatalf("Past = %x", got)
			}
			if got := g.Tops(a); !slices.Equal(got, f.tops(f.in(a))) {
				t.Fatalf("Tops = %x", got)
			}
			if got := g.Meet(a, b); !slices.Equal(got, f.tops(common)) {
				t.Fatalf("Meet = %x", got)
			}
			if got := g.Lacks(a); !slices.Equal(got, up(lacks...)) {
				t.Fatalf("Lacks = %x", got)
			}
			for author := range 6 {
				if got := g.Next(author, a); got != f.next(author, a) {
					t.Fatalf("Next = %d", got)
				}
			}
			if !slices.Equal(g.Past(g.Tops(a)), g.Past(a)) || !slices.Equal(g.Past(g.Meet(a, b)), f.inOrder(common)) {
				t.Fatal("the past of tops, of a meeting")
			}
		}
	}
}

// P6.4, P6.5
func TestHashesOfNothing(t *testing.T) {
	g, a, _, _, _ := four(t)
	if g.Has(alien) || g.Depth(alien) != 0 || len(g.Kids(alien)) > 0 || g.Place(alien) != -1 {
		t.Error("a hash that is not in")
	}
	if u, ok := g.Update(alien); ok || !update.Same(u, api.Update{}) {
		t.Error("an update that is not in")
	}
	if g.Before(a, alien) || g.Before(alien, a) || g.Before(alien, alien) || g.Less(a, alien) || g.Less(alien, a) || g.Less(alien, alien) || g.Less(a, a) {
		t.Error("what is not in stands ahead of something")
	}
	if len(g.Past(list(alien))) > 0 || len(g.Tops(list(alien, alien))) > 0 || len(g.Meet(list(alien), list(alien))) > 0 || len(g.Meet(list(a), list(alien))) > 0 {
		t.Error("what is not in has a past")
	}
	if len(g.Past(nil)) > 0 || len(g.Tops(nil)) > 0 || len(g.Meet(nil, nil)) > 0 || len(g.Meet(nil, list(a))) > 0 || len(g.Lacks(nil)) > 0 {
		t.Error("none")
	}
	for _, author := range []int{0, -1, math.MinInt, math.MaxInt} {
		if g.Next(author, g.Heads()) != 1 {
			t.Errorf("Next of the author %d", author)
		}
	}
	if g.Next(1, nil) != 1 || g.Next(1, list(alien, a, a)) != 2 {
		t.Error("Next")
	}
}

// P6.7, P6.9
func TestWhatFollows(t *testing.T) {
	r := rand.New(rand.NewSource(3))
	g, _ := randomGraph(t, r, 100)
	order := g.Order()
	if !slices.Equal(g.Past(g.Heads()), order) || !slices.Equal(g.Tops(order), g.Heads()) {
		t.Error("the past of the heads, the tops of the order")
	}
	for i, h := range order {
		u, _ := g.Update(h)
		for _, p := range u.Parents {
			if g.Place(p) >= i {
				t.Errorf("%x stands ahead of a parent", h)
			}
		}
		seqs := map[int][]int{}
		for _, x := range g.Past(list(h)) {
			y, _ := g.Update(x)
			seqs[y.Author] = append(seqs[y.Author], y.Seq)
		}
		for author, l := range seqs {
			slices.Sort(l)
			if l = slices.Compact(l); l[0] != 1 || l[len(l)-1] != len(l) {
				t.Errorf("author %d has the numbers %v", author, l)
			}
		}
		for j, x := range order {
			if (i == j) == (g.Less(h, x) || g.Less(x, h)) || g.Less(h, x) && g.Less(x, h) {
				t.Errorf("Less of %x and %x", h, x)
			}
		}
	}
}

// P6.6
func TestAnyOrder(t *testing.T) {
	r := rand.New(rand.NewSource(4))
	for _, size := range []int{4, 30, 70} {
		g, made := randomGraph(t, r, size)
		want := tell(g)
		for range 4 {
			other := New()
			waiting := slices.Clone(made)
			for len(waiting) > 0 {
				at := r.Intn(len(waiting))
				_, why := other.Add(waiting[at])
				if why != api.OK && why != api.ErrParent {
					t.Fatalf("Add: %d", why)
				}
				if why == api.OK {
					waiting = slices.Delete(waiting, at, at+1)
				}
			}
			if !reflect.DeepEqual(tell(other), want) {
				t.Fatal("the same updates in another order tell other things")
			}
			a, b := some(r, g.Order()), some(r, g.Order())
			if !slices.Equal(other.Meet(a, b), g.Meet(a, b)) || !slices.Equal(other.Tops(a), g.Tops(a)) {
				t.Fatal("Meet, Tops")
			}
		}
	}
}

// P6.1, P5
func TestForks(t *testing.T) {
	g, _ := randomGraph(t, rand.New(rand.NewSource(5)), 66)
	before := tell(g)
	first, second := g.Fork(), g.Fork()
	if !reflect.DeepEqual(tell(first), before) {
		t.Fatal("a fork tells other things")
	}
	write := func(x *Graph, note string) {
		for range 3 {
			u := api.Update{Author: 1, Parents: x.Heads(), Note: note}
			u.Parents = u.Parents[:min(len(u.Parents), api.MaxParents)]
			u.Seq = x.Next(1, u.Parents)
			add(t, x, u)
			add(t, x, api.Update{Author: 5, Seq: 1, Note: note + u.Note, Time: int64(x.Len())})
		}
	}
	write(first, "first")
	if !reflect.DeepEqual(tell(g), before) || !reflect.DeepEqual(tell(second), before) {
		t.Fatal("what was done to a fork shows in others")
	}
	after := tell(first)
	write(g, "graph")
	write(second, "second")
	if !reflect.DeepEqual(tell(first), after) {
		t.Error("what was done to the graph shows in a fork")
	}
	if !reflect.DeepEqual(tell(first.Fork()), after) || reflect.DeepEqual(tell(second), tell(g)) {
		t.Error("a fork's fork")
	}
	for _, x := range []*Graph{g, first, second} {
		if x.Len() != 72 || len(x.Past(x.Heads())) != 72 {
			t.Errorf("%d updates", x.Len())
		}
	}
}

// P6.1, P1
func TestNil(t *testing.T) {
	var g *Graph
	a := api.Hash{1}
	if g.Fork() != nil || g.Len() != 0 || g.Has(a) || g.Depth(a) != 0 || len(g.Kids(a)) > 0 || len(g.Heads()) > 0 || g.Before(a, a) || g.Less(a, alien) || len(g.Order()) > 0 || g.Place(a) != -1 {
		t.Error("a nil graph has something")
	}
	if u, ok := g.Update(a); ok || !update.Same(u, api.Update{}) {
		t.Error("a nil graph has an update")
	}
	if len(g.Past(list(a))) > 0 || len(g.Tops(list(a))) > 0 || len(g.Meet(list(a), list(a))) > 0 || g.Next(1, list(a)) != 1 {
		t.Error("a nil graph has a past")
	}
	if !slices.Equal(g.Lacks(list(alien, a, alien)), list(a, alien)) {
		t.Error("a nil graph lacks all")
	}
	for _, u := range []api.Update{{Author: 1, Seq: 1}, {}} {
		if why := g.Check(u); why != api.ErrNil {
			t.Errorf("Check = %d", why)
		}
		if h, why := g.Add(u); why != api.ErrNil || h != (api.Hash{}) {
			t.Errorf("Add = %x, %d", h, why)
		}
	}
	n := New()
	if n == nil || n.Len() != 0 || len(n.Heads()) > 0 || len(n.Order()) > 0 || n.Fork() == nil || n.Place(a) != -1 || n.Next(1, nil) != 1 {
		t.Error("a new graph has something")
	}
	if h := add(t, n.Fork(), api.Update{Author: 1, Seq: 1}); n.Has(h) || n.Len() != 0 {
		t.Error("a new graph's fork is the graph")
	}
}

// P6.2: a full graph; it has two rows of updates, so that all numbers of words are met.
func TestFull(t *testing.T) {
	g := New()
	var last [2]api.Hash
	for i := range api.MaxUpdates {
		u := api.Update{Author: 1 + i%2, Seq: 1 + i/2}
		if i > 1 {
			u.Parents = list(last[i%2])
		}
		last[i%2] = add(t, g, u)
		if i == api.MaxUpdates-2 && g.Check(api.Update{Author: 3, Seq: 1}) != api.OK {
			t.Fatal("full too early")
		}
	}
	before := g.Order()
	both := up(last[:]...)
	for name, x := range map[string]struct {
		u   api.Update
		why api.Errno
	}{
		"one more":    {api.Update{Author: 3, Seq: 1}, api.ErrFull},
		"behind both": {api.Update{Author: 2, Seq: api.MaxUpdates/2 + 1, Parents: both}, api.ErrFull},
		"its turn":    {api.Update{Author: 3, Seq: 2}, api.ErrTurn},
		"its parent":  {api.Update{Author: 3, Seq: 1, Parents: list(alien)}, api.ErrParent},
		"known":       {api.Update{Author: 1, Seq: 1}, api.ErrKnown},
		"not right":   {api.Update{}, api.ErrAuthor},
	} {
		h, why := g.Add(x.u)
		if why != x.why || h != (api.Hash{}) || g.Check(x.u) != x.why {
			t.Errorf("%s: %d", name, why)
		}
	}
	if g.Len() != api.MaxUpdates || !slices.Equal(g.Order(), before) || !slices.Equal(g.Heads(), both) {
		t.Error("a full graph changed")
	}
	for i, h := range before {
		if g.Place(h) != i || g.Depth(h) != i/2+1 || g.Before(h, last[0]) == g.Before(h, last[1]) && g.Depth(h) < api.MaxUpdates/2 {
			t.Fatalf("place %d: %d, depth %d", i, g.Place(h), g.Depth(h))
		}
	}
	if len(g.Past(list(last[0]))) != api.MaxUpdates/2 || len(g.Meet(list(last[0]), list(last[1]))) > 0 || g.Next(2, both) != api.MaxUpdates/2+1 {
		t.Error("Past, Meet, Next of a full graph")
	}
}

// P3
func TestMemory(t *testing.T) {
	g, a, b, c, d := four(t)
	want := tell(g)
	spoil := func(l []api.Hash) {
		l = l[:cap(l)]
		for i := range l {
			l[i] = alien
		}
	}
	l := append(list(d, a, c, a, alien, b), alien, d)[:6]
	kept := slices.Clone(l[:8])
	for range 2 {
		for _, answer := range [][]api.Hash{g.Order(), g.Heads(), g.Kids(a), g.Past(l), g.Tops(l), g.Meet(l, l), g.Lacks(l)} {
			spoil(answer)
		}
		for h := range want.Of {
			u, _ := g.Update(h)
			spoil(u.Parents)
		}
	}
	g.Next(1, l)
	if !slices.Equal(l[:8], kept) {
		t.Error("a list that was handed in was changed")
	}
	if !reflect.DeepEqual(tell(g), want) {
		t.Error("what is done to an answer shows in the graph")
	}
	u := api.Update{Author: 3, Seq: 1, Parents: up(c, d), Edits: []api.Edit{{Act: api.Revoke, Who: 5}}}
	h := add(t, g, u)
	u = api.Update{Author: 4, Seq: 1, Parents: list(h), Edits: []api.Edit{{Act: api.Revoke, Who: 5}}}
	k, _ := g.Add(u)
	u.Parents[0], u.Edits[0].Who = alien, 6
	got, _ := g.Update(k)
	if got.Parents[0] != h || got.Edits[0].Who != 5 || !slices.Equal(g.Kids(h), list(k)) {
		t.Error("an update that was handed in is kept")
	}
	got.Edits[0].Who = 7
	if again, _ := g.Update(k); again.Edits[0].Who != 5 {
		t.Error("an update that was answered is the graph's own")
	}
}

// A walk that is left early ends there.
func TestWalksAreLeft(t *testing.T) {
	g, _, _, _, _ := four(t)
	for n := range g.all() {
		if n.id != g.Order()[0] {
			t.Error("not the first")
		}
		break
	}
	for n := range g.back() {
		if n.id != g.Order()[3] {
			t.Error("not the last")
		}
		break
	}
}
