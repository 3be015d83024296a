package policy

import (
	"math/rand"
	"slices"
	"strconv"
	"testing"

	"estuary/api"
	"estuary/dag"
	"estuary/eval"
)

const authors = 6

// anyLine is an edit by chance: of ranks, for the most part.
func anyLine(r *rand.Rand) string {
	who := strconv.Itoa(1 + r.Intn(authors))
	switch r.Intn(8) {
	case 0:
		return `put . . "k` + strconv.Itoa(r.Intn(3)) + `" ` + strconv.Itoa(r.Intn(100))
	case 1:
		return `delete . . "k` + strconv.Itoa(r.Intn(3)) + `"`
	case 2, 3:
		return "revoke " + who
	}
	return "grant " + who + " " + strconv.Itoa(1+r.Intn(api.MaxRank))
}

// anyParents are some of a graph's updates by chance, the newest ones rather.
func anyParents(r *rand.Rand, g *dag.Graph) []api.Hash {
	all := g.Order()
	var l []api.Hash
	for range r.Intn(4) {
		if len(all) > 0 {
			l = append(l, all[len(all)-1-min(r.Intn(len(all)), r.Intn(len(all)))])
		}
	}
	return g.Tops(l)
}

// anyAuthor is the founder rather than others.
func anyAuthor(r *rand.Rand) int {
	return max(1, r.Intn(authors+3)-2)
}

func anyWorld(t *testing.T, r *rand.Rand, size int) *world {
	w := newWorld(t)
	for range size {
		var lines []string
		for range r.Intn(5) {
			lines = append(lines, anyLine(r))
		}
		w.add(anyAuthor(r), anyParents(r, w.g), lines...)
	}
	return w
}

// eachWorld hands over graphs by chance, with heads by chance.
func eachWorld(t *testing.T, n int64, look func(r *rand.Rand, w *world, m *model, heads []api.Hash)) {
	for seed := range n {
		r := rand.New(rand.NewSource(seed))
		w := anyWorld(t, r, 1+r.Intn(30))
		look(r, w, newModel(w.g), anyParents(r, w.g))
		if t.Failed() {
			t.Fatalf("seed %d", seed)
		}
	}
}

// P26.1, P26.2: graphs by chance tell what the chapter's words say.
func TestByTheWords(t *testing.T) {
	tell := map[int]int{}
	eachWorld(t, 150, func(r *rand.Rand, w *world, m *model, heads []api.Hash) {
		for author := range authors + 2 {
			n := m.Rank(heads, author)
			tell[n]++
			w.rank(author, n, heads...)
		}
		if got, want := Rights(w.g, heads), m.Rights(heads, authors); !slices.Equal(got, want) {
			t.Errorf("Rights: %v, not %v", got, want)
		}
		void := m.Void()
		if got := Void(w.g); !slices.Equal(got, void) {
			t.Errorf("Void: %d, not %d", len(got), len(void))
		}
		if shown(Doc(w.g)) != shown(eval.Fold(w.g, w.g.Heads(), void)) {
			t.Error("Doc")
		}
		u := w.next(1+r.Intn(authors), heads, anyLine(r))
		if h, why := w.g.Fork().Add(u); why == api.OK {
			g := w.g.Fork()
			g.Add(u)
			want := api.OK
			if !newModel(g).counts(h) {
				want = api.ErrMay
			}
			if got := Check(w.g, u); got != want {
				t.Errorf("Check: %d, not %d", got, want)
			}
		}
	})
	for n := range api.MaxRank + 1 {
		if tell[n] == 0 {
			t.Errorf("nobody had the rank %d", n)
		}
	}
}

// P26.3 (E17): what does not count changes nothing.
func TestVoidChangesNothing(t *testing.T) {
	tried := 0
	eachWorld(t, 150, func(r *rand.Rand, w *world, _ *model, heads []api.Hash) {
		u := w.next(2+r.Intn(authors), anyParents(r, w.g), anyLine(r), anyLine(r), anyLine(r))
		if Check(w.g, u) != api.ErrMay {
			return
		}
		tried++
		doc, rights, all, void := shown(Doc(w.g)), Rights(w.g, heads), Rights(w.g, w.g.Order()), Void(w.g)
		olds := w.g.Order()
		h, _ := w.g.Add(u)
		if shown(Doc(w.g)) != doc || !slices.Equal(Rights(w.g, heads), rights) || !slices.Equal(Rights(w.g, olds), all) || !slices.Equal(Rights(w.g, w.g.Order()), all) {
			t.Error("it changes something")
		}
		if got := Void(w.g); !slices.Equal(up(got...), up(append(void, h)...)) {
			t.Errorf("%d are void, not %d", len(got), len(void)+1)
		}
	})
	if tried < 50 {
		t.Errorf("only %d", tried)
	}
}

// P26.4: a rank was given by somebody else of a greater one.
func TestRanksAreGiven(t *testing.T) {
	eachWorld(t, 100, func(r *rand.Rand, w *world, m *model, heads []api.Hash) {
		for _, x := range Rights(w.g, heads) {
			if x.Author == 1 {
				continue
			}
			given := slices.ContainsFunc(w.g.Past(heads), func(h api.Hash) bool {
				u, _ := w.g.Update(h)
				says := slices.ContainsFunc(u.Edits, func(e api.Edit) bool {
					return e.Act == api.Grant && e.Who == x.Author && int(e.N) == x.Rank
				})
				return says && u.Author != x.Author && Rank(w.g, u.Parents, u.Author) > x.Rank && !slices.Contains(Void(w.g), h)
			})
			if !given {
				t.Errorf("author %d has the rank %d from nobody", x.Author, x.Rank)
			}
		}
	})
}

// valid are the valid edits of an act and an author among the ancestors of an update.
func valid(m *model, h api.Hash, act api.Act, who int) []api.Id {
	return slices.DeleteFunc(m.ids(m.before(h), api.Id{}), func(id api.Id) bool {
		e := m.edit(id)
		return e.Act != act || e.Who != who || !m.isValid(id)
	})
}

// P26.5: who had seen their own Revoke, and no Grant behind it, writes what is void.
func TestRevokedWriteNothing(t *testing.T) {
	met := 0
	eachWorld(t, 150, func(_ *rand.Rand, w *world, m *model, _ []api.Hash) {
		void := Void(w.g)
		for _, h := range w.g.Order() {
			u, _ := w.g.Update(h)
			grants := valid(m, h, api.Grant, u.Author)
			for _, revoke := range valid(m, h, api.Revoke, u.Author) {
				again := slices.ContainsFunc(grants, func(id api.Id) bool { return m.seen(id, revoke) })
				if !again {
					met++
					if !slices.Contains(void, h) {
						t.Error("it counts")
					}
				}
			}
		}
	})
	if met < 30 {
		t.Errorf("only %d", met)
	}
}

// P26.6: the same past, in whatever graph, and however it came there, tells the same.
func TestThePastAlone(t *testing.T) {
	eachWorld(t, 100, func(r *rand.Rand, w *world, _ *model, heads []api.Hash) {
		g := dag.New()
		past := w.g.Past(heads)
		for len(past) > 0 {
			i := r.Intn(len(past))
			u, _ := w.g.Update(past[i])
			if _, why := g.Add(u); why == api.OK {
				past = slices.Delete(past, i, i+1)
			}
		}
		if !slices.Equal(Rights(g, heads), Rights(w.g, heads)) || !slices.Equal(Rights(g, g.Order()), Rights(w.g, heads)) {
			t.Error("Rights")
		}
		void := slices.DeleteFunc(Void(w.g), func(h api.Hash) bool { return !g.Has(h) })
		if !slices.Equal(Void(g), void) {
			t.Error("Void")
		}
	})
}

// P26.7: the founder's count, all of them; without Grants just these.
func TestFoundersCount(t *testing.T) {
	eachWorld(t, 100, func(r *rand.Rand, w *world, _ *model, _ []api.Hash) {
		for _, h := range Void(w.g) {
			if u, _ := w.g.Update(h); u.Author == 1 {
				t.Error("a founder's is void")
			}
		}
		bare := newWorld(t)
		var others []api.Hash
		for range 20 {
			author := anyAuthor(r)
			h := bare.add(author, anyParents(r, bare.g), "revoke 2", `put . . "a" `+strconv.Itoa(r.Intn(100)))
			if author != 1 {
				others = append(others, h)
			}
		}
		bare.void(others...)
	})
}

// P26.1, P26.2, P6: a full graph of full updates, in one row, and with as many beside one another as can be.
func TestFullGraphs(t *testing.T) {
	row, wide := dag.New(), dag.New()
	u := api.Update{Author: 1, Seq: 1}
	for i := range api.MaxEdits {
		u.Edits = append(u.Edits, api.Edit{Act: api.Grant, Who: 2 + i, N: 2})
	}
	for i := range api.MaxUpdates {
		u.Time, u.Edits[0].N = int64(i), int64(2+i%7)
		wide.Add(u)
		v := u
		v.Seq, v.Parents = i+1, row.Heads()
		row.Add(v)
	}
	if row.Len() != api.MaxUpdates || wide.Len() != api.MaxUpdates {
		t.Fatal("not full")
	}
	if n := Rank(row, row.Heads(), 2); n != 2+(api.MaxUpdates-1)%7 {
		t.Errorf("in one row: %d", n)
	}
	if n := Rank(wide, wide.Heads(), 2); n != 2 {
		t.Errorf("side by side: %d", n)
	}
	if l := Rights(row, row.Heads()); len(l) != 1+api.MaxEdits || len(Void(row)) > 0 {
		t.Errorf("%d rights", len(l))
	}
}
