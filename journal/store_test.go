package journal

import (
	"bytes"
	"errors"
	"slices"
	"strings"
	"testing"

	"estuary/api"
	"estuary/replica"
)

var options = api.Options{Every: 2, Keep: 2, Orphans: 2}

const log = "log"

func opened(t *testing.T, d *Disk) *Store {
	t.Helper()
	s, why := Open(d, log, options)
	if s == nil || why != api.OK {
		t.Fatalf("Open: %d", why)
	}
	return s
}

// holds asks for the file's bytes, all durable.
func holds(t *testing.T, d *Disk, b []byte) {
	t.Helper()
	isFile(t, d, log, string(b), string(b))
}

// P24.4, P24.5, the first example
func TestOpenNew(t *testing.T) {
	d := newDisk(t, 1000)
	s := opened(t, d)
	holds(t, d, plainHead())
	if len(plainHead()) != 17 || s.Lost() != 0 || s.ReadOnly() || len(s.Records()) != 0 || s.Replica().Render() != "{}" {
		t.Errorf("%d lost, %v, %s", s.Lost(), s.ReadOnly(), s.Replica().Render())
	}
	b := encoded(t, api.Update{Author: 1, Seq: 1})
	if x := s.Receive(b); x.Why != api.OK || len(x.Taken) != 1 || x.Taken[0] != x.Id || x.Steps != 1 {
		t.Errorf("%v", x)
	}
	if len(fileOfRows(b)) != 17+23 {
		t.Errorf("%d bytes", len(fileOfRows(b)))
	}
	holds(t, d, fileOfRows(b))
	if !sameRows(s.Records(), [][]byte{b}) {
		t.Errorf("%x", s.Records())
	}
}

// P24.5, P24.6: the second and the third example
func TestStopAndFail(t *testing.T) {
	w := row(t, 3)
	d := newDisk(t, 1000)
	s := opened(t, d)
	s.Receive(w.rows[w.ids[0]])
	d.Stop(1)
	if x := s.Receive(w.rows[w.ids[1]]); !sameReceipt(x, api.Receipt{Why: api.ErrIO, Id: w.ids[1]}) || !s.ReadOnly() {
		t.Errorf("%v, %v", x, s.ReadOnly())
	}
	if x := s.Receive(w.rows[w.ids[1]]); !sameReceipt(x, api.Receipt{Why: api.ErrReadOnly, Id: w.ids[1]}) {
		t.Errorf("%v", x)
	}
	holds(t, d, fileOfRows(w.bytes(0)...))
	want(t, "Crash", d.Crash(nil), api.OK)
	if x := s.Receive(w.rows[w.ids[1]]); x.Why != api.ErrReadOnly {
		t.Errorf("behind the crash, not opened anew: %v", x)
	}
	s = opened(t, d)
	if s.Lost() != 0 || s.ReadOnly() || !sameRows(s.Records(), w.bytes(0)) {
		t.Errorf("%d lost, %v, %d records", s.Lost(), s.ReadOnly(), len(s.Records()))
	}

	d.Fail(2)
	if x := s.Receive(w.rows[w.ids[1]]); !sameReceipt(x, api.Receipt{Why: api.ErrIO, Id: w.ids[1]}) || !s.ReadOnly() || len(s.Records()) != 1 || len(s.Replica().Accepted()) != 1 {
		t.Errorf("%v, %v", x, s.ReadOnly())
	}
	isFile(t, d, log, string(fileOfRows(w.bytes(0)...)), string(fileOfRows(w.bytes(0, 1)...)))
	s = opened(t, d)
	if s.Lost() != 0 || !sameRows(s.Records(), w.bytes(0, 1)) || !slices.Equal(s.Replica().Accepted(), w.ids[:2]) {
		t.Errorf("%d lost, %d records", s.Lost(), len(s.Records()))
	}
	holds(t, d, fileOfRows(w.bytes(0, 1)...))
	if x := s.Commit(1, 2, "", []api.Edit{put("k", 2)}); x.Why != api.OK || x.Id != w.ids[2] {
		t.Errorf("%v", x)
	}
	holds(t, d, fileOfRows(w.bytes(0, 1, 2)...))
}

// P24.4, the fourth example: a record of which any number of bytes stay
func TestTornRecord(t *testing.T) {
	first, next := encoded(t, api.Update{Author: 1, Seq: 1}), encoded(t, api.Update{Author: 2, Seq: 1})
	for keep := range 24 {
		d := newDisk(t, 1000)
		s := opened(t, d)
		s.Receive(first)
		d.Fail(2)
		s.Receive(next)
		want(t, "Crash", d.Crash([]api.Fate{{Name: log, Keep: keep}}), api.OK)
		s = opened(t, d)
		if keep < 23 {
			if s.Lost() != keep || !sameRows(s.Records(), [][]byte{first}) {
				t.Errorf("%d kept: %d lost, %d records", keep, s.Lost(), len(s.Records()))
			}
			holds(t, d, fileOfRows(first))
		} else if s.Lost() != 0 || !sameRows(s.Records(), [][]byte{first, next}) {
			t.Errorf("all kept: %d lost, %d records", s.Lost(), len(s.Records()))
		}
		if x := s.Receive(encoded(t, api.Update{Author: 3, Seq: 1})); x.Why != api.OK {
			t.Errorf("%d kept: %v", keep, x)
		}
	}
}

// P24.4, the fifth example: files that say nothing, and corrupt ones
func TestBeginnings(t *testing.T) {
	h := string(plainHead())
	other := string(framed(2, []byte("ESTJ")))
	turned := func(at int) string {
		b := []byte(h)
		b[at] ^= 1
		return string(b)
	}
	for name, c := range map[string]struct {
		now string
		why api.Errno
	}{
		"empty":                   {"", api.OK},
		"one byte":                {"x", api.OK},
		"the head's beginning":    {h[:5], api.OK},
		"all but a byte":          {h[:16], api.OK},
		"the first byte is other": {turned(0), api.OK},
		"the last byte is other":  {turned(16), api.OK},
		"17 bytes 0":              {strings.Repeat("\x00", 17), api.OK},
		"another frame":           {other, api.OK},
		"18 bytes 0":              {strings.Repeat("\x00", 18), api.ErrCorrupt},
		"40 bytes 0":              {strings.Repeat("\x00", 40), api.ErrCorrupt},
		"another frame, and more": {other + "x", api.ErrCorrupt},
		"the first, and more":     {turned(0) + "x", api.ErrCorrupt},
		"the last, and more":      {turned(16) + "x", api.ErrCorrupt},
		"a byte ahead":            {"x" + h, api.ErrCorrupt},
	} {
		d := newDisk(t, 100, image(log, "durable", c.now))
		before := d.Images()
		s, why := Open(d, log, options)
		if why != c.why || (s == nil) != (why != api.OK) {
			t.Errorf("%s: %v, %d", name, s, why)
		}
		if why != api.OK {
			if !sameImages(d.Images(), before) {
				t.Errorf("%s: %v", name, d.Images())
			}
			continue
		}
		holds(t, d, plainHead())
		if s.Lost() != len(c.now) || len(s.Records()) != 0 {
			t.Errorf("%s: %d lost, %d records", name, s.Lost(), len(s.Records()))
		}
	}
}

// P24.4: what stands behind the records that count is lost
func TestLost(t *testing.T) {
	w := row(t, 4)
	good := w.bytes(0, 1)
	turn := encoded(t, api.Update{Author: 1, Seq: 9, Parents: w.ids[1:2]})
	spoilt := framed(2, w.rows[w.ids[2]])
	spoilt[20] ^= 1
	third := framed(2, w.rows[w.ids[2]])
	for name, c := range map[string]struct {
		behind []byte
		lost   int
	}{
		"nothing":                        {nil, 0},
		"the next one":                   {third, 0},
		"a byte":                         {[]byte{2}, 1},
		"bytes 0":                        {make([]byte, 30), 30},
		"another kind":                   {framed(1, w.rows[w.ids[2]]), 13 + len(w.rows[w.ids[2]])},
		"a head":                         {plainHead(), 17},
		"no bytes":                       {framed(2, nil), 13},
		"no update":                      {framed(2, []byte("EST1")), 17},
		"one that is there":              {framed(2, good[1]), 13 + len(good[1])},
		"one that is there, and the new": {slices.Concat(framed(2, good[0]), third), 13 + len(good[0]) + len(third)},
		"one that lacks a parent":        {framed(2, w.rows[w.ids[3]]), 13 + len(w.rows[w.ids[3]])},
		"that, and the parent":           {slices.Concat(framed(2, w.rows[w.ids[3]]), third), 13 + len(w.rows[w.ids[3]]) + len(third)},
		"out of turn":                    {framed(2, turn), 13 + len(turn)},
		"a spoilt one, and a good one":   {slices.Concat(spoilt, third), 2 * len(third)},
		"good, and its half":             {slices.Concat(third, third[:20]), 20},
		"a long one":                     {framed(2, make([]byte, api.MaxUpdate+1)), api.MaxUpdate + 14},
	} {
		file := slices.Concat(fileOfRows(good...), c.behind)
		d := newDisk(t, 1<<20, image(log, "", string(file)))
		s := opened(t, d)
		if s.Lost() != c.lost {
			t.Errorf("%s: %d lost, not %d", name, s.Lost(), c.lost)
		}
		holds(t, d, file[:len(file)-c.lost])
		r, _, _, _ := said(file, options)
		sameReplica(t, s.Replica(), r)
		if len(s.Replica().Waiting()) != 0 || !sameRows(s.Records(), s.Replica().Export()) {
			t.Errorf("%s: %d wait, %d records", name, len(s.Replica().Waiting()), len(s.Records()))
		}
		// What was lost counts for nothing: it can come again.
		for _, h := range w.ids[2:] {
			if x := s.Receive(w.rows[h]); x.Why != api.OK && x.Why != api.ErrKnown {
				t.Errorf("%s: %v", name, x)
			}
		}
		if again := opened(t, d); !slices.Equal(again.Replica().Accepted(), w.ids) || again.Lost() != 0 {
			t.Errorf("%s: %d accepted, %d lost", name, len(again.Replica().Accepted()), again.Lost())
		}
	}
}

// P24.4, P2: in this order
func TestOpenFaults(t *testing.T) {
	many := func() []api.Image {
		var l []api.Image
		for i := range api.MaxFiles {
			l = append(l, image(string(rune('a'+i)), "", ""))
		}
		return l
	}
	wrong := api.Options{Every: 0, Keep: 2, Orphans: 2}
	zeros := strings.Repeat("\x00", 40)
	for name, c := range map[string]struct {
		l    []api.Image
		name string
		o    api.Options
		stop bool
		why  api.Errno
	}{
		"no name":                  {nil, "", wrong, true, api.ErrName},
		"a name with a line feed":  {nil, "\n", options, false, api.ErrName},
		"a name that is too long":  {nil, strings.Repeat("n", api.MaxKey+1), options, false, api.ErrName},
		"Every 0":                  {many(), log, wrong, true, api.ErrRange},
		"Every above":              {nil, log, api.Options{Every: api.MaxEvery + 1}, false, api.ErrRange},
		"Keep below 0":             {nil, log, api.Options{Every: 1, Keep: -1}, false, api.ErrRange},
		"Keep above":               {nil, log, api.Options{Every: 1, Keep: api.MaxKeep + 1}, false, api.ErrRange},
		"Orphans below 0":          {nil, log, api.Options{Every: 1, Orphans: -1}, false, api.ErrRange},
		"Orphans above":            {nil, log, api.Options{Every: 1, Orphans: api.MaxOrphans + 1}, false, api.ErrRange},
		"wrong, and corrupt":       {[]api.Image{image(log, "", zeros)}, log, wrong, true, api.ErrRange},
		"corrupt, and stopped":     {[]api.Image{image(log, "", zeros)}, log, options, true, api.ErrCorrupt},
		"too many files":           {many(), log, options, true, api.ErrFull},
		"no room for a head":       {[]api.Image{image("a", "", zeros), image(log, "", "")}, log, options, false, api.ErrFull},
		"no room, and stopped":     {[]api.Image{image("a", "", zeros), image(log, "", "")}, log, options, true, api.ErrIO},
		"a new file, and stopped":  {nil, log, options, true, api.ErrIO},
		"a good file, and stopped": {[]api.Image{image(log, "", string(plainHead()))}, log, options, true, api.ErrIO},
	} {
		d := newDisk(t, 56, c.l...)
		before := d.Images()
		if c.stop {
			d.Stop(1)
		}
		if s, why := Open(d, c.name, c.o); s != nil || why != c.why {
			t.Errorf("%s: %v, %d, not %d", name, s, why, c.why)
		}
		if !sameImages(d.Images(), before) {
			t.Errorf("%s: %v", name, d.Images())
		}
	}
}

// P24.4: which calls Open does, and what is left where one of them fails
func TestOpenCalls(t *testing.T) {
	w := row(t, 2)
	good := fileOfRows(w.bytes(0, 1)...)
	for name, c := range map[string]struct {
		l     []api.Image
		calls int
	}{
		"no file":           {nil, 4},
		"an empty file":     {[]api.Image{image(log, "", "")}, 3},
		"half a head":       {[]api.Image{image(log, "", "abc")}, 4},
		"a head":            {[]api.Image{image(log, "", string(plainHead()))}, 1},
		"records":           {[]api.Image{image(log, string(good), string(good))}, 1},
		"records, not kept": {[]api.Image{image(log, "", string(good))}, 1},
		"a torn record":     {[]api.Image{image(log, "", string(good[:len(good)-1]))}, 2},
	} {
		for fail := 1; fail <= c.calls; fail++ {
			for _, stop := range []bool{false, true} {
				d, m := newDisk(t, 1000, c.l...), &plainDisk{capacity: 1000}
				for _, x := range c.l {
					m.files = append(m.files, copied(x))
				}
				if stop {
					d.Stop(fail)
					m.stop = fail
				} else {
					d.Fail(fail)
					m.fail = fail
				}
				s, why := Open(d, log, options)
				if _, modelWhy := plainOpen(m, log, options); s != nil || why != api.ErrIO || why != modelWhy {
					t.Errorf("%s: %v, %d, not %d", name, s, why, modelWhy)
				}
				sameDisk(t, d, m)
				d.Stop(0)
				opened(t, d)
			}
		}
		d := newDisk(t, 1000, c.l...)
		d.Fail(c.calls + 1)
		opened(t, d)
		want(t, name+": the next call", d.Sync(log), api.ErrIO)
	}
}

// caller is a store, or a replica.
type caller interface {
	Receive(b []byte) api.Receipt
	Commit(author int, time int64, note string, l []api.Edit) api.Receipt
}

// P24.5: what the replica refuses by itself, or keeps waiting, is not written, read-only or not
func TestNoneTaken(t *testing.T) {
	w := row(t, 3)
	turn := encoded(t, api.Update{Author: 7, Seq: 9})
	for _, readOnly := range []bool{false, true} {
		d := newDisk(t, 1000)
		s := opened(t, d)
		s.Receive(w.rows[w.ids[0]])
		if readOnly {
			d.Stop(1)
			s.Commit(5, 0, "", nil)
			if !s.ReadOnly() {
				t.Error("not read-only")
			}
		}
		before := d.Images()
		alone := s.Replica()
		both := func(what string, why api.Errno, do func(r caller) api.Receipt) {
			t.Helper()
			x, y := do(s), do(alone)
			if x.Why != why || !sameReceipt(x, y) {
				t.Errorf("%s: %v, not %v", what, x, y)
			}
			sameReplica(t, s.Replica(), alone)
		}
		both("no bytes", api.ErrShort, func(r caller) api.Receipt { return r.Receive(nil) })
		both("known", api.ErrKnown, func(r caller) api.Receipt { return r.Receive(w.rows[w.ids[0]]) })
		both("out of turn", api.ErrTurn, func(r caller) api.Receipt { return r.Receive(turn) })
		both("no author", api.ErrAuthor, func(r caller) api.Receipt { return r.Commit(0, 0, "", nil) })
		both("waits", api.ErrParent, func(r caller) api.Receipt { return r.Receive(w.rows[w.ids[2]]) })
		both("waits already", api.ErrKnown, func(r caller) api.Receipt { return r.Receive(w.rows[w.ids[2]]) })
		for n := range 2 {
			lonely := encoded(t, api.Update{Author: 8, Seq: 1, Parents: []api.Hash{{byte(n)}}})
			both("waits, or no room", []api.Errno{api.ErrParent, api.ErrFull}[n], func(r caller) api.Receipt { return r.Receive(lonely) })
		}
		if !sameImages(d.Images(), before) || s.ReadOnly() != readOnly {
			t.Error("something was written")
		}
		if x := s.Receive(w.rows[w.ids[1]]); readOnly && !sameReceipt(x, api.Receipt{Why: api.ErrReadOnly, Id: w.ids[1]}) || !readOnly && !slices.Equal(x.Taken, w.ids[1:]) {
			t.Errorf("%v", x)
		}
		if readOnly {
			sameReplica(t, s.Replica(), alone)
			x := s.Commit(5, 0, "", nil)
			if alone := alone.Commit(5, 0, "", nil); !sameReceipt(x, api.Receipt{Why: api.ErrReadOnly, Id: alone.Id}) {
				t.Errorf("%v", x)
			}
		} else {
			holds(t, d, fileOfRows(w.bytes(0, 1, 2)...))
		}
	}
}

// P24.5: several that are accepted by one call are one Append, and all or none of them count
func TestSeveralTaken(t *testing.T) {
	w := newWorld()
	a := w.add(t, 1, 0)
	b := w.add(t, 2, 1, a)
	c := w.add(t, 3, 2, a)
	for fail := range 4 {
		d := newDisk(t, 1000)
		s := opened(t, d)
		for _, h := range []api.Hash{b, c} {
			if x := s.Receive(w.rows[h]); x.Why != api.ErrParent {
				t.Errorf("%v", x)
			}
		}
		alone := s.Replica()
		d.Fail(fail)
		x := s.Receive(w.rows[a])
		if fail == 1 || fail == 2 {
			if !sameReceipt(x, api.Receipt{Why: api.ErrIO, Id: a}) || !s.ReadOnly() {
				t.Errorf("%v", x)
			}
			sameReplica(t, s.Replica(), alone)
			continue
		}
		y := alone.Receive(w.rows[a])
		if !sameReceipt(x, y) || len(x.Taken) != 3 {
			t.Errorf("%v, not %v", x, y)
		}
		sameReplica(t, s.Replica(), alone)
		var rows [][]byte
		for _, h := range x.Taken {
			rows = append(rows, w.rows[h])
		}
		holds(t, d, fileOfRows(rows...))
		if !sameRows(s.Records(), rows) {
			t.Errorf("%d records", len(s.Records()))
		}
	}
}

// P24.5: no room on the disk is no reason to be read-only
func TestFullDisk(t *testing.T) {
	w := row(t, 2)
	small := encoded(t, api.Update{Author: 9, Seq: 1})
	d := newDisk(t, len(fileOfRows(w.bytes(0)...))+len(framed(2, small)))
	s := opened(t, d)
	s.Receive(w.rows[w.ids[0]])
	alone := s.Replica()
	for range 2 {
		if x := s.Receive(w.rows[w.ids[1]]); !sameReceipt(x, api.Receipt{Why: api.ErrFull, Id: w.ids[1]}) || s.ReadOnly() {
			t.Errorf("%v, %v", x, s.ReadOnly())
		}
		sameReplica(t, s.Replica(), alone)
		holds(t, d, fileOfRows(w.bytes(0)...))
	}
	if x := s.Commit(1, 1, "", []api.Edit{put("k", 1)}); !sameReceipt(x, api.Receipt{Why: api.ErrFull, Id: w.ids[1]}) {
		t.Errorf("%v", x)
	}
	if x := s.Receive(small); x.Why != api.OK || d.Free() != 0 {
		t.Errorf("%v, %d free", x, d.Free())
	}
	holds(t, d, fileOfRows(w.rows[w.ids[0]], small))
	d.Stop(1)
	if x := s.Receive(w.rows[w.ids[1]]); x.Why != api.ErrFull || s.ReadOnly() {
		t.Errorf("no room ahead of no power: %v", x)
	}
}

// P24.5: the disk's other errors make the store read-only, too
func TestCutUnderStore(t *testing.T) {
	w := row(t, 1)
	d := newDisk(t, 1000)
	s := opened(t, d)
	d.Cut(log, 3)
	if x := s.Receive(w.rows[w.ids[0]]); !sameReceipt(x, api.Receipt{Why: api.ErrDirty, Id: w.ids[0]}) || !s.ReadOnly() {
		t.Errorf("%v", x)
	}
	if len(s.Records()) != 0 || len(s.Replica().Accepted()) != 0 {
		t.Error("it was taken")
	}
}

// P24.5, P24.7: where the graph becomes full, what was Taken is written
func TestFullGraph(t *testing.T) {
	w := newWorld()
	var rows [][]byte
	for i := range api.MaxUpdates - 2 {
		rows = append(rows, encoded(t, api.Update{Author: 10 + i, Seq: 1}))
	}
	p := w.add(t, 1, 0)
	kids := []api.Hash{w.add(t, 2, 1, p), w.add(t, 3, 2, p)}
	d := newDisk(t, 1<<20, image(log, "", string(fileOfRows(rows...))))
	open := func() *Store {
		s, why := Open(d, log, api.Options{Every: api.MaxEvery, Orphans: 2})
		if why != api.OK {
			t.Fatalf("Open: %d", why)
		}
		return s
	}
	s := open()
	if len(s.Records()) != len(rows) {
		t.Fatalf("%d records", len(s.Records()))
	}
	for _, h := range kids {
		s.Receive(w.rows[h])
	}
	x := s.Receive(w.rows[p])
	if x.Why != api.ErrFull || len(x.Taken) != 2 || !slices.Contains(x.Taken, p) || s.ReadOnly() {
		t.Errorf("%d, %d taken", x.Why, len(x.Taken))
	}
	if y := s.Commit(5, 0, "", nil); y.Why != api.ErrFull || len(y.Taken) != 0 {
		t.Errorf("%v", y)
	}
	if len(s.Records()) != api.MaxUpdates {
		t.Errorf("%d records", len(s.Records()))
	}
	again := open()
	if again.Lost() != 0 || !slices.Equal(again.Replica().Accepted(), s.Replica().Accepted()) {
		t.Errorf("%d lost, %d accepted", again.Lost(), len(again.Replica().Accepted()))
	}
	left := framed(2, encoded(t, api.Update{Author: 5, Seq: 1}))
	d.Append(log, left)
	if again := open(); again.Lost() != len(left) {
		t.Errorf("%d lost", again.Lost())
	}
}

// what is refused says of which file, and is told apart by what it wraps
func TestRefusals(t *testing.T) {
	err := refuse(log, errFull)
	if err.Error() != "log: there is no room" || !errors.Is(err, errFull) || errors.Is(err, errIO) {
		t.Error(err)
	}
	if number(err) != api.ErrFull || number(nil) != api.OK {
		t.Errorf("%d, %d", number(err), number(nil))
	}
}

// P1, P24.6
func TestNilStore(t *testing.T) {
	var s *Store
	if x := s.Receive(nil); !sameReceipt(x, api.Receipt{Why: api.ErrNil}) {
		t.Errorf("%v", x)
	}
	if x := s.Commit(1, 0, "", nil); !sameReceipt(x, api.Receipt{Why: api.ErrNil}) {
		t.Errorf("%v", x)
	}
	if s.Replica() != nil || len(s.Records()) != 0 || s.Lost() != 0 || s.ReadOnly() {
		t.Error("a nil store has something")
	}
}

// P24.6, P3, P5
func TestStoreIsNewMemory(t *testing.T) {
	w := row(t, 2)
	d := newDisk(t, 1000)
	s := opened(t, d)
	given := append(slices.Clone(w.rows[w.ids[0]]), 77)
	x := s.Receive(given[:len(given)-1])
	if given[len(given)-1] != 77 {
		t.Error("what was handed in is changed")
	}
	clear(given)
	clear(x.Taken[:cap(x.Taken)])
	for range 2 {
		l := s.Records()
		for i := range l {
			clear(l[i][:cap(l[i])])
		}
		clear(l[:cap(l)])
	}
	s.Replica().Receive(w.rows[w.ids[1]])
	edits := []api.Edit{put("k", 1)}
	if x := s.Commit(1, 1, "", edits); x.Id != w.ids[1] {
		t.Errorf("%v", x)
	}
	clear(edits)
	if !sameRows(s.Records(), w.bytes(0, 1)) || !slices.Equal(s.Replica().Accepted(), w.ids) || !bytes.Equal(s.Replica().Export()[0], w.rows[w.ids[0]]) {
		t.Error("memory is shared")
	}
	r := s.Replica()
	s.Commit(2, 0, "", nil)
	if len(r.Accepted()) != 2 {
		t.Error("a Fork knows what is done to the store")
	}
	if s.Replica().Steps() != received(s.Records(), options).Steps() {
		t.Errorf("%d steps", s.Replica().Steps())
	}
}

// P24.4: the options are the replica's
func TestStoreOptions(t *testing.T) {
	w := row(t, 9)
	var all []int
	for n := range w.ids {
		all = append(all, n)
	}
	d := newDisk(t, 10000, image(log, "", string(fileOfRows(w.bytes(all...)...))))
	for _, o := range []api.Options{{Every: 1, Keep: 0, Orphans: 0}, {Every: 1, Keep: 5, Orphans: 1}, {Every: 4, Keep: 9, Orphans: 2}} {
		s, why := Open(d, log, o)
		if why != api.OK {
			t.Fatal(why)
		}
		r, _ := replica.New(o)
		for _, n := range all {
			r.Receive(w.rows[w.ids[n]])
		}
		sameReplica(t, s.Replica(), r)
		for n := range 3 {
			lonely := encoded(t, api.Update{Author: 8, Seq: 1, Parents: []api.Hash{{byte(n)}}})
			if x, y := s.Receive(lonely), r.Receive(lonely); !sameReceipt(x, y) {
				t.Errorf("%v, not %v", x, y)
			}
		}
		if x := s.Commit(3, 0, "", nil); x.Why != api.OK {
			t.Errorf("%v", x)
		}
		want(t, "Cut", d.Cut(log, len(fileOfRows(w.bytes(all...)...))), api.OK)
	}
}
