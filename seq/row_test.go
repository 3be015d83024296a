package seq

import (
	"math/bits"
	"math/rand"
	"slices"
	"testing"

	"estuary/api"
)

// checkSpot looks at a spot and all from there down: links, counts and weights.
func checkSpot(t *testing.T, r *row[element], at, up, deep int) int {
	t.Helper()
	if at == none {
		return deep
	}
	s := r.spots[at]
	count := [2]int{1, 0}
	if s.shown {
		count[live] = 1
	}
	for _, part := range s.down {
		for what, n := range r.spots[part].count {
			count[what] += n
		}
	}
	a, b := r.weight(s.down[left]), r.weight(s.down[right])
	if s.up != up || s.count != count || a > heavy*b || b > heavy*a {
		t.Fatalf("the spot %d: %v", at, s)
	}
	return max(checkSpot(t, r, s.down[left], at, deep+1), checkSpot(t, r, s.down[right], at, deep+1))
}

// even asks that a sequence's tree is whole and low, and that no room is kept for what is gone.
func even(t *testing.T, s *Seq) {
	t.Helper()
	deep := checkSpot(t, &s.row, s.row.root(), none, 0)
	if deep > 3*bits.Len(uint(s.Len())) || len(s.row.spots) != s.Len()+1 || len(s.spots) != s.Len() {
		t.Fatalf("%d deep with %d elements, %d spots", deep, s.Len(), len(s.row.spots))
	}
	if h := s.row.spots[none]; h.count != [2]int{} || h.down[left] != none || h.kept.id != front {
		t.Fatalf("the front: %v", h)
	}
}

// A long sequence stays low, and so is quick, whatever order it is written in
func TestLong(t *testing.T) {
	const n = 1 << 16
	r := rand.New(rand.NewSource(1))
	for name, behind := range map[string]func(i int) int{
		"each behind the last":  func(i int) int { return i },
		"each at the front":     func(i int) int { return 0 },
		"all behind one":        func(i int) int { return min(i, 1) },
		"behind any":            func(i int) int { return r.Intn(i + 1) },
		"behind one in between": func(i int) int { return i / 2 },
		"behind the last two":   func(i int) int { return max(0, i-i%2) },
	} {
		s := New()
		for i := range n {
			at := front
			if b := behind(i); b > 0 {
				at = id(b)
			}
			must(t, s, [2]api.Id{id(i + 1), at})
			s.Show(id(i+1), i%3 == 0)
		}
		even(t, s)
		for rank, x := range s.Ids() {
			if at, ok := s.At(rank); !ok || at != x || s.Rank(x) != rank {
				t.Fatalf("%s: %v at %d", name, x, rank)
			}
		}
		for index, x := range s.Live() {
			if at, ok := s.Nth(index); !ok || at != x || s.Index(x) != index {
				t.Fatalf("%s: %v at %d", name, x, index)
			}
		}
		for i := range n {
			if why := s.Take(id(n - i)); why != api.OK {
				t.Fatalf("%s: Take(%d) = %d", name, n-i, why)
			}
		}
		even(t, s)
		tells(t, s, nil)
	}
}

// What is taken from anywhere leaves a tree that is even
func TestTakeAnywhere(t *testing.T) {
	r := rand.New(rand.NewSource(2))
	s := New()
	var want []api.Id
	for i := range 3000 {
		must(t, s, [2]api.Id{id(i + 1), front})
		want = append(want, id(i+1))
	}
	slices.Reverse(want)
	for len(want) > 0 {
		at := r.Intn(len(want))
		if r.Intn(2) == 0 {
			at = min(r.Intn(20), len(want)-1)
		}
		if s.Take(want[at]) != api.OK {
			t.Fatal("Take")
		}
		want = slices.Delete(want, at, at+1)
		even(t, s)
		if len(want)%100 == 0 && !slices.Equal(s.Ids(), want) {
			t.Fatal("the order has changed")
		}
	}
}

// A walk is left where the one who ranges over it leaves it; a row keeps whatever it is made over
func TestWalk(t *testing.T) {
	r := newRow[string]()
	at := none
	for _, s := range []string{"a", "b", "c", "d"} {
		at = r.put(at, s)
	}
	r.show(r.find(1, all), false)
	told := func(what, many int) string {
		text := ""
		for s := range r.walk(what) {
			if len(text) == many {
				break
			}
			text += s
		}
		return text
	}
	for many, want := range []string{"", "a", "ab", "abc", "abcd", "abcd"} {
		if got := told(all, many); got != want {
			t.Errorf("%d of all: %s", many, got)
		}
	}
	for many, want := range []string{"", "a", "ac", "acd", "acd"} {
		if got := told(live, many); got != want {
			t.Errorf("%d of those that are shown: %s", many, got)
		}
	}
}
