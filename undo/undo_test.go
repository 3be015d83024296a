package undo

import (
	"math"
	"math/rand"
	"slices"
	"strings"
	"testing"

	"estuary/api"
	"estuary/edit"
)

// inverse asks that an update is undone by these lines.
func (w *world) inverse(t *testing.T, h api.Hash, lines ...string) {
	t.Helper()
	l, why := Inverse(w.g, h)
	if why != api.OK {
		t.Fatalf("Inverse: %d", why)
	}
	var got, want []string
	for _, e := range l {
		got = append(got, edit.Show(e))
	}
	for _, s := range lines {
		want = append(want, w.spelt(s))
	}
	if !slices.Equal(got, want) {
		t.Errorf("%q, not %q", got, want)
	}
}

// The first example: P20.1.
func TestTwoPuts(t *testing.T) {
	w := newWorld()
	h := w.say(t, 1, `put . . "a" 1`)
	i := w.say(t, 1, `put . . "a" 2`)
	w.inverse(t, i, `put . . "a" 1`)
	w.inverse(t, h, `delete . . "a"`)
	w = newWorld()
	h = w.say(t, 1, `put . . "a" 1`)
	i = w.say(t, 2, `put . . "a" 2`)
	w.inverse(t, h)
	w.inverse(t, i, `put . . "a" 1`)
}

// The second example: P20.1, P20.7, P20.8.
func TestInserted(t *testing.T) {
	w := newWorld()
	w.say(t, 1, `put . . "l" []`)
	h := w.say(t, 1, `insert %1.1 . "x"`)
	w.inverse(t, h, `delete %1.1 %2.1 ""`)
	u := w.say(t, 1, `delete %1.1 %2.1 ""`)
	w.inverse(t, u, `put %1.1 %2.1 "" "x"`)
}

// The third example: P20.1.
func TestAdded(t *testing.T) {
	w := newWorld()
	w.say(t, 1, `put . . "n" +1`)
	h := w.say(t, 1, `add . . "n" 5`)
	w.say(t, 2, `add . . "n" 2`)
	w.inverse(t, h, `add . . "n" -5`)
}

// The fourth example: P20.1.
func TestObjectsStayAway(t *testing.T) {
	w := newWorld()
	w.say(t, 1, `put . . "m" 7`)
	h := w.say(t, 1, `put . . "m" {}`)
	w.inverse(t, h, `put . . "m" 7`)
	u := w.say(t, 1, `put . . "m" 7`)
	w.inverse(t, u)
	// nor by a deletion that is undone, nor where another object is shown by now
	w = newWorld()
	w.say(t, 1, `put . . "m" {}`)
	h = w.say(t, 1, `delete . . "m"`)
	w.inverse(t, h)
	w.say(t, 1, `put . . "m" []`)
	w.inverse(t, h)
}

// P20.1: what there is not, and nil
func TestOfNone(t *testing.T) {
	w := newWorld()
	h := w.say(t, 1, `put . . "a" 1`)
	for _, x := range []api.Hash{{}, own} {
		if l, why := Inverse(w.g, x); why != api.ErrNone || len(l) > 0 {
			t.Errorf("%v, %d", l, why)
		}
	}
	if l, why := Inverse(nil, h); why != api.ErrNone || len(l) > 0 {
		t.Errorf("of a nil graph: %v, %d", l, why)
	}
}

// Words: who has written since, and who has not
func TestFree(t *testing.T) {
	for name, x := range map[string]struct {
		author  int
		beside  bool
		line    string
		reverse string
	}{
		"another, behind":              {2, false, `put . . "a" 9`, ""},
		"another, beside":              {2, true, `put . . "a" 9`, ""},
		"another deletes":              {2, false, `delete . . "a"`, ""},
		"another adds":                 {2, true, `add . . "a" 1`, ""},
		"the author":                   {1, false, `put . . "a" 9`, `put . . "a" 1`},
		"the author, who forks":        {1, true, `put . . "a" 9`, `put . . "a" 1`},
		"another, somewhere else":      {2, false, `put . . "b" 9`, `put . . "a" 1`},
		"another, at no place":         {2, false, `put . %1.1 "" 9`, `put . . "a" 1`},
		"another, in another object":   {2, true, `put %1.2 . "a" 9`, `put . . "a" 1`},
		"the author puts what was":     {1, false, `put . . "a" 1`, ""},
		"the author deletes it":        {1, false, `delete . . "a"`, `put . . "a" 1`},
		"the author puts an object":    {1, false, `put . . "a" {}`, `put . . "a" 1`},
		"another writes nothing at it": {2, false, `mark %1.2 . . "a" 0 1`, `put . . "a" 1`},
	} {
		w := newWorld()
		w.say(t, 2, `put . . "a" 1`, `put . . "m" {}`)
		begin := w.g.Heads()
		h := w.say(t, 1, `put . . "a" 2`)
		if x.beside {
			w.add(t, x.author, begin, w.lines(t, x.line)...)
		} else {
			w.say(t, x.author, x.line)
		}
		var lines []string
		if x.reverse != "" {
			lines = []string{x.reverse}
		}
		t.Run(name, func(t *testing.T) { w.inverse(t, h, lines...) })
	}
	// What acts on the place is not asked whether it was passed over.
	w := newWorld()
	w.say(t, 1, `put . . "t" ''`, `insert #1 . "a"`)
	h := w.say(t, 1, `put %1.1 %1.2 "" "b"`)
	w.inverse(t, h, `put %1.1 %1.2 "" "a"`)
	w.say(t, 2, `put %1.1 %1.2 "" "xy"`)
	w.inverse(t, h)
}

// Words: Put, Delete and Insert, each place once, the last one first; what is the same is left
func TestPlaces(t *testing.T) {
	w := newWorld()
	w.say(t, 1, `put . . "a" 1`, `put . . "b" "x"`, `put . . "l" []`, `insert #3 . 1`, `insert #3 #4 2`)
	h := w.say(t, 1, `put . . "a" 2`, `put . . "c" 3`, `delete . . "b"`, `put . . "a" 4`, `put %1.3 %1.4 "" 8`, `insert %1.3 . {}`, `put #6 . "x" 1`, `delete . . "zz"`, `delete %1.3 %1.5 ""`, `put . . "e" 1`, `delete . . "e"`)
	w.inverse(t, h, `put %1.3 %1.5 "" 2`, `delete %2.6 . "x"`, `delete %1.3 %2.6 ""`, `put %1.3 %1.4 "" 1`, `put . . "a" 1`, `put . . "b" "x"`, `delete . . "c"`)
	// What an own update set back meanwhile needs nothing any more.
	w.say(t, 1, `put . . "b" "x"`, `delete . . "c"`, `put %1.3 %1.5 "" 3`)
	w.inverse(t, h, `put %1.3 %1.5 "" 2`, `delete %2.6 . "x"`, `delete %1.3 %2.6 ""`, `put %1.3 %1.4 "" 1`, `put . . "a" 1`)
}

// Words: values are the same by their kind, too
func TestSameValue(t *testing.T) {
	w := newWorld()
	w.say(t, 1, `put . . "a" 1`)
	h := w.say(t, 1, `put . . "a" 2`)
	w.say(t, 1, `put . . "a" 1.0`)
	w.inverse(t, h, `put . . "a" 1`)
	w.say(t, 1, `put . . "a" +1`)
	w.inverse(t, h, `put . . "a" 1`)
	w.say(t, 1, `put . . "a" 1`)
	w.inverse(t, h)
	w = newWorld()
	h = w.say(t, 1, `put . . "a" null`)
	i := w.say(t, 1, `delete . . "a"`)
	w.inverse(t, h)
	w.inverse(t, i, `put . . "a" null`)
	w.say(t, 1, `put . . "a" null`)
	w.inverse(t, h, `delete . . "a"`)
	w.inverse(t, i)
}

// Words: what is shown ahead, if several lie there, is the last one; what is set back has seen all
func TestSeveral(t *testing.T) {
	w := newWorld()
	w.say(t, 2, `put . . "b" 0`)
	begin := w.g.Heads()
	w.add(t, 2, begin, w.lines(t, `put . . "a" 1`)...)
	w.add(t, 3, begin, w.lines(t, `put . . "a" 2`)...)
	shown := map[bool]string{true: `put . . "a" 2`, false: `put . . "a" 1`}[w.g.Less(w.made[1], w.made[2])]
	h := w.say(t, 1, `delete . . "a"`)
	w.inverse(t, h, shown)
	// A put beside h by another author is since h, wherever it stands in the order.
	w.add(t, 4, begin, w.lines(t, `put . . "a" 3`)...)
	w.inverse(t, h)
}

// Words: Adds: all of one place at once, going round; not where the update put, deleted or inserted; where a Counter is shown now
func TestAdds(t *testing.T) {
	w := newWorld()
	w.say(t, 1, `put . . "n" +1`, `put . . "m" +1`, `put . . "i" 1`, `put . . "t" ''`, `insert #4 . "a"`, `put . . "o" <>`, `grow #6 . "k" +1`, `put . . "d" +1`)
	h := w.say(t, 1, `add . . "n" 5`, `add . . "m" 0`, `add . . "n" -9223372036854775808`, `add . . "i" 1`, `add . . "zz" 1`, `add %1.6 %1.7 "" 4`, `add . . "d" 2`, `put . . "d" +7`)
	w.inverse(t, h, `put . . "d" +1`, `add %1.6 %1.7 "" -4`, `add . . "n" 9223372036854775803`, `add . . "m" 0`)
	w.say(t, 1, `put . . "i" +4`, `put . . "m" 1`)
	w.inverse(t, h, `put . . "d" +1`, `add %1.6 %1.7 "" -4`, `add . . "i" -1`, `add . . "n" 9223372036854775803`)
	w.say(t, 3, `delete . . "n"`, `put . . "zz" +1`, `put . . "d" +1`)
	w.inverse(t, h, `add %1.6 %1.7 "" -4`, `add . . "zz" -1`, `add . . "i" -1`)
	if math.MaxInt64-4 != 9223372036854775803 {
		t.Error("a number that is not meant")
	}
}

// Words: a Put that was passed over does not hinder an Add; an Add that was passed over does not count
func TestPassedOverAndAdds(t *testing.T) {
	w := newWorld()
	w.say(t, 1, `put . . "o" <>`, `grow #1 . "k" +1`)
	h := w.say(t, 1, `add %1.1 #3 "" 100`, `put %1.1 %1.2 "" {}`, `grow %1.1 . "l" +5`, `add %1.1 #3 "" 3`, `add %1.1 %1.2 "" 2`)
	w.inverse(t, h, `add %1.1 %1.2 "" -2`, `add %1.1 %2.3 "" -3`, `prune %1.1 %2.3`)
}

// Words: nodes: Grow, Move and Prune, each once
func TestNodes(t *testing.T) {
	w := newWorld()
	w.say(t, 1, `put . . "o" <>`, `grow #1 . "a" 1`, `grow #1 #2 "b" 2`, `grow #1 . "c" 3`, `grow #1 . "d" 4`, `prune #1 #5`)
	h := w.say(t, 1, `grow %1.1 . "x" 1`, `move %1.1 %1.3 . "y"`, `move %1.1 %1.3 %1.4 "z"`, `prune %1.1 %1.4`, `move %1.1 %1.5 . "u"`, `prune %1.1 %1.5`, `move %1.1 %1.5 %1.2 "v"`)
	w.inverse(t, h, `prune %1.1 %1.5`, `move %1.1 %1.4 . "c"`, `move %1.1 %1.3 %1.2 "b"`, `prune %1.1 %2.1`)
	// What stands where it stood, or is pruned, as it was, is left.
	w.say(t, 1, `prune %1.1 %2.1`, `prune %1.1 %1.5`, `move %1.1 %1.3 %1.2 "b"`)
	w.inverse(t, h, `move %1.1 %1.4 . "c"`)
	w.say(t, 1, `move %1.1 %1.4 . "cc"`, `move %1.1 %1.3 %1.4 "b"`)
	w.inverse(t, h, `move %1.1 %1.4 . "c"`, `move %1.1 %1.3 %1.2 "b"`)
	// A node does not go under itself, and not under what lies under it.
	w.say(t, 1, `move %1.1 %1.2 %1.3 "a"`)
	w.inverse(t, h, `move %1.1 %1.4 . "c"`)
	w.say(t, 1, `prune %1.1 %1.2`)
	w.inverse(t, h, `move %1.1 %1.4 . "c"`, `move %1.1 %1.3 %1.2 "b"`)
}

// Words: a node under a pruned one goes back there all the same; one that another author moved, or put something at, does not
func TestNodesOfOthers(t *testing.T) {
	w := newWorld()
	w.say(t, 1, `put . . "o" <>`, `grow #1 . "a" 1`, `grow #1 #2 "b" 2`, `grow #1 . "c" 3`)
	h := w.say(t, 1, `move %1.1 %1.3 . "x"`, `move %1.1 %1.4 . "y"`, `put %1.1 %1.4 "" 5`, `put %1.1 %1.3 "" 6`)
	w.say(t, 2, `prune %1.1 %1.2`)
	w.inverse(t, h, `put %1.1 %1.3 "" 2`, `put %1.1 %1.4 "" 3`, `move %1.1 %1.4 . "c"`, `move %1.1 %1.3 %1.2 "b"`)
	w.say(t, 2, `put %1.1 %1.4 "" 5`, `move %1.1 %1.3 . "x"`)
	w.inverse(t, h)
}

// Words: an outline's node is not deleted; a put at a node that the update grew is undone by pruning it
func TestGrownAndPut(t *testing.T) {
	w := newWorld()
	w.say(t, 1, `put . . "o" <>`)
	h := w.say(t, 1, `grow %1.1 . "a" 1`, `put %1.1 #1 "" 2`)
	w.inverse(t, h, `prune %1.1 %2.1`)
}

// P20.1, P20.9: marks and ranks stay; of what was passed over nothing is undone
func TestNothingToUndo(t *testing.T) {
	w := newWorld()
	w.say(t, 1, `put . . "t" ''`, `insert #1 . "a"`)
	for _, lines := range [][]string{nil, {`mark %1.1 %1.2 %1.2 "m" 2 true`, `grant 5 3`, `revoke 5`}, {`put %1.1 . "a" 1`, `insert . . 1`, `put %1.1 %1.2 "" "xy"`, `put %9.1 . "a" 1`, `add %1.1 . "a" 1`, `prune %1.1 %1.2`, `move . #1 . "a"`, `grow . . "k" 1`}} {
		for i := range lines {
			lines[i] = strings.Replace(lines[i], "%9.", strings.Repeat("0", 64)+"#", 1)
		}
		w.inverse(t, w.say(t, 1, lines...))
	}
}

// Words: what was passed over in the update's own past counts as passed over, though it is done in the document of all
func TestDoneLater(t *testing.T) {
	for n := range 50 { // till the one that is named comes ahead in the order
		w := newWorld()
		a := w.add(t, 2, nil, api.Edit{Act: api.Put, Key: "m", Value: kind(api.Map)}, api.Edit{Act: api.Put, Key: "x", Value: whole(n)})
		b := w.add(t, 1, nil, w.lines(t, `put %1.1 . "a" 1`)...)
		if !w.g.Less(a, b) {
			continue
		}
		w.inverse(t, b)
		return
	}
	t.Error("no such graph")
}

// P3: what is answered is memory of its own
func TestInverseMemory(t *testing.T) {
	w := newWorld()
	h := w.say(t, 1, `put . . "a" 1`, `put . . "b" 1`)
	l, _ := Inverse(w.g, h)
	clear(l[:cap(l)])
	w.inverse(t, h, `delete . . "b"`, `delete . . "a"`)
}

// P20.2, P1, the fifth example
func TestNewStack(t *testing.T) {
	for author, want := range map[int]api.Errno{math.MinInt: api.ErrAuthor, -1: api.ErrAuthor, 0: api.ErrAuthor, 1: api.OK, api.MaxAuthor - 1: api.OK, api.MaxAuthor: api.ErrAuthor, math.MaxInt: api.ErrAuthor} {
		if s, why := New(author); why != want || (s == nil) != (why != api.OK) {
			t.Errorf("New(%d): %d", author, why)
		}
	}
	s, _ := New(1)
	w := newWorld()
	h := w.say(t, 1)
	if l, why := s.Undo(w.g); why != api.ErrEmpty || len(l) > 0 {
		t.Errorf("Undo: %d", why)
	}
	if l, why := s.Redo(w.g); why != api.ErrEmpty || len(l) > 0 {
		t.Errorf("Redo: %d", why)
	}
	if why := s.Done(w.g, h); why != api.ErrEmpty {
		t.Errorf("Done: %d", why)
	}
	s = nil
	_, undo := s.Undo(w.g)
	_, redo := s.Redo(nil)
	if undo != api.ErrNil || redo != api.ErrNil || s.Note(w.g, h) != api.ErrNil || s.Done(nil, h) != api.ErrNil || s.Fork() != nil {
		t.Error("a nil Stack")
	}
	if a, b := s.Depth(); a != 0 || b != 0 {
		t.Error("Depth of a nil Stack")
	}
}

// P20.3, P20.5: the first error that applies
func TestStackRefuses(t *testing.T) {
	w := newWorld()
	h, other := w.say(t, 1, `put . . "a" 1`), w.say(t, 2, `put . . "b" 1`)
	s, _ := New(1)
	for _, call := range []func(h api.Hash) api.Errno{func(h api.Hash) api.Errno { return s.Note(w.g, h) }, func(h api.Hash) api.Errno { return s.Done(w.g, h) }} {
		if call(own) != api.ErrNone || call(api.Hash{}) != api.ErrNone || call(other) != api.ErrAuthor {
			t.Error("ErrNone, ErrAuthor")
		}
	}
	if s.Note(nil, h) != api.ErrNone || s.Done(nil, h) != api.ErrNone {
		t.Error("a nil graph")
	}
	if s.Note(w.g, h) != api.OK || s.Note(w.g, h) != api.ErrKnown || s.Done(w.g, h) != api.ErrKnown {
		t.Error("ErrKnown")
	}
	if _, why := s.Undo(w.g); why != api.OK {
		t.Error(why)
	}
	i := w.say(t, 1, `delete . . "a"`)
	if s.Done(w.g, h) != api.ErrKnown || s.Done(w.g, other) != api.ErrAuthor || s.Done(w.g, i) != api.OK {
		t.Error("Done")
	}
	if s.Done(w.g, i) != api.ErrKnown || s.Note(w.g, i) != api.ErrKnown || s.Done(w.g, h) != api.ErrEmpty {
		t.Error("behind Done")
	}
}

// P20.4: what is asked last counts; with an error nothing changes; what Note tells ends it
func TestAsked(t *testing.T) {
	w := newWorld()
	h, i := w.say(t, 1, `put . . "a" 1`), w.say(t, 1, `put . . "a" 2`)
	j, k, l := w.say(t, 1), w.say(t, 1), w.say(t, 1)
	s, _ := New(1)
	depth := func(undo, redo int) {
		t.Helper()
		if a, b := s.Depth(); a != undo || b != redo {
			t.Fatalf("Depth = %d, %d", a, b)
		}
	}
	s.Note(w.g, h)
	s.Note(w.g, i)
	depth(2, 0)
	if e, why := s.Undo(w.g); why != api.OK || len(e) != 1 || e[0].Value != whole(1) {
		t.Fatal(e, why)
	}
	if _, why := s.Redo(w.g); why != api.ErrEmpty {
		t.Fatal(why)
	}
	// The undo is asked for still.
	if why := s.Done(w.g, j); why != api.OK {
		t.Fatal(why)
	}
	depth(1, 1)
	if why := s.Done(w.g, k); why != api.ErrEmpty {
		t.Fatal(why)
	}
	s.Undo(w.g)
	if _, why := s.Redo(w.g); why != api.OK {
		t.Fatal(why)
	}
	if _, why := s.Undo(nil); why != api.ErrNone { // the redo is asked for still
		t.Fatal(why)
	}
	if why := s.Done(w.g, k); why != api.OK {
		t.Fatal(why)
	}
	depth(2, 0)
	if why := s.Note(w.g, j); why != api.OK { // it stands in no row any more
		t.Fatal(why)
	}
	s.Undo(w.g)
	if why := s.Note(w.g, i); why != api.OK {
		t.Fatal(why)
	}
	if why := s.Done(w.g, l); why != api.ErrEmpty {
		t.Fatal("Note ends what is asked for")
	}
	depth(4, 0)
}

// stackModel is a Stack by the chapter's words.
type stackModel struct {
	author     int
	undo, redo []api.Hash
	asked      string
}

func (m *stackModel) refuses(w *world, h api.Hash) api.Errno {
	u, is := w.g.Update(h)
	switch {
	case !is:
		return api.ErrNone
	case u.Author != m.author:
		return api.ErrAuthor
	case slices.Contains(m.undo, h) || slices.Contains(m.redo, h):
		return api.ErrKnown
	}
	return api.OK
}

func (m *stackModel) ask(l []api.Hash, what string) (api.Hash, api.Errno) {
	if len(l) == 0 {
		return api.Hash{}, api.ErrEmpty
	}
	m.asked = what
	return l[len(l)-1], api.OK
}

func newest(l []api.Hash, h api.Hash) []api.Hash {
	l = append(slices.Clone(l), h)
	return l[max(0, len(l)-api.MaxUndo):]
}

func (m *stackModel) done(w *world, h api.Hash) api.Errno {
	if why := m.refuses(w, h); why != api.OK {
		return why
	}
	switch m.asked {
	case "":
		return api.ErrEmpty
	case "undo":
		m.undo, m.redo = m.undo[:len(m.undo)-1], newest(m.redo, h)
	case "redo":
		m.undo, m.redo = newest(m.undo, h), m.redo[:len(m.redo)-1]
	}
	m.asked = ""
	return api.OK
}

// P20.2 to P20.6, P20.10, P5: Stacks by chance, and Forks of them
func TestStackByChance(t *testing.T) {
	r := rand.New(rand.NewSource(203))
	w := newWorld()
	for n := range 400 {
		author := 1
		if n%10 == 9 {
			author = 2
		}
		w.say(t, author, `put . . "a" `+strings.Repeat("1", 1+n%5))
	}
	type pair struct {
		s *Stack
		m stackModel
	}
	s, _ := New(1)
	pairs := []pair{{s, stackModel{author: 1}}}
	most := 0
	for n := range 6000 {
		x := &pairs[r.Intn(len(pairs))]
		h := pickOne(r, append(w.made, own)...)
		var got, want api.Errno
		switch act := r.Intn(100); {
		case act < 30 || n < 600:
			got, want = x.s.Note(w.g, h), x.m.refuses(w, h)
			if want == api.OK {
				x.m.undo, x.m.redo, x.m.asked = newest(x.m.undo, h), nil, ""
			}
		case act < 50:
			got, want = x.s.Done(w.g, h), x.m.done(w, h)
		case act < 95 && n%40 == 0:
			var l, inverse []api.Edit
			var of api.Hash
			if act < 75 {
				l, got = x.s.Undo(w.g)
				of, want = x.m.ask(x.m.undo, "undo")
			} else {
				l, got = x.s.Redo(w.g)
				of, want = x.m.ask(x.m.redo, "redo")
			}
			if want == api.OK {
				inverse, _ = Inverse(w.g, of)
			}
			if !slices.Equal(l, inverse) {
				t.Fatalf("%v, not %v", l, inverse)
			}
		case act > 97 && len(pairs) < 4:
			pairs = append(pairs, pair{x.s.Fork(), stackModel{x.m.author, slices.Clone(x.m.undo), slices.Clone(x.m.redo), x.m.asked}})
		}
		if got != want {
			t.Fatalf("step %d: %d, not %d", n, got, want)
		}
		for _, x := range pairs {
			a, b := x.s.Depth()
			most = max(most, a)
			if a != len(x.m.undo) || b != len(x.m.redo) || a > api.MaxUndo || b > api.MaxUndo {
				t.Fatalf("step %d: Depth = %d, %d, not %d, %d", n, a, b, len(x.m.undo), len(x.m.redo))
			}
		}
	}
	if most != api.MaxUndo || len(pairs) != 4 {
		t.Errorf("at most %d, %d Stacks", most, len(pairs))
	}
}
