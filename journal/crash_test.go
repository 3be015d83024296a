package journal

import (
	"math/rand"
	"slices"
	"testing"

	"estuary/api"
	"estuary/digest"
	"estuary/replica"
)

// life is a store's, on a disk whose power fails, beside one by the chapter's words.
type life struct {
	t    *testing.T
	r    *rand.Rand
	w    *world
	o    api.Options
	d    *Disk
	m    *plainDisk
	s    *Store // nil, if the last Open answered none
	ms   *plainStore
	junk func(n int) []byte

	promised map[api.Hash]int // what was Taken
	came     map[api.Hash]int // what was handed in
}

func newLife(t *testing.T, seed int64, capacity int) *life {
	t.Helper()
	r := rand.New(rand.NewSource(seed))
	return &life{
		t: t, r: r,
		w:        anyWorld(t, r, 4+r.Intn(20)),
		o:        api.Options{Every: 1 + r.Intn(4), Keep: r.Intn(3), Orphans: r.Intn(6)},
		d:        newDisk(t, capacity),
		m:        &plainDisk{capacity: capacity},
		junk:     func(int) []byte { return nil },
		promised: map[api.Hash]int{},
		came:     map[api.Hash]int{},
	}
}

// anyRow is bytes that come: mostly a right update's.
func (l *life) anyRow() []byte {
	b := l.w.rows[pick(l.r, l.w.ids...)]
	switch l.r.Intn(12) {
	case 0:
		return anyBytes(l.r, l.r.Intn(20))
	case 1:
		return b[:l.r.Intn(len(b))]
	case 2:
		return encoded(l.t, api.Update{Author: 9, Seq: 2 + l.r.Intn(2), Parents: up(pick(l.r, l.w.ids...))})
	}
	return b
}

// open opens the store anew, and asks for what follows from that.
func (l *life) open() {
	l.t.Helper()
	s, why := Open(l.d, log, l.o)
	ms, modelWhy := plainOpen(l.m, log, l.o)
	if why != modelWhy || (s == nil) != (why != api.OK) {
		l.t.Fatalf("Open: %v, %d, not %d", s, why, modelWhy)
	}
	sameDisk(l.t, l.d, l.m)
	l.s, l.ms = s, ms
	if s == nil {
		return
	}
	accepted := s.Replica().Accepted()
	for h := range l.promised {
		if !slices.Contains(accepted, h) {
			l.t.Fatalf("%x was Taken, and is lost", h)
		}
	}
	for _, x := range l.d.Images() {
		if x.Name == log && (string(x.Now) != string(x.Durable) || string(x.Now[:17]) != string(plainHead())) {
			l.t.Fatalf("not synced, or without a head: %v", x)
		}
	}
	l.opensAgain(accepted)
}

// opensAgain asks what the same Open tells, nothing being done between.
func (l *life) opensAgain(accepted []api.Hash) {
	l.t.Helper()
	f := l.d.Fork()
	f.Stop(0)
	f.Fail(0)
	s, why := Open(f, log, l.o)
	if why != api.OK || s.Lost() != 0 || !slices.Equal(s.Replica().Accepted(), accepted) {
		l.t.Fatalf("opened twice: %d, %d lost", why, s.Lost())
	}
	if !sameImages(f.Images(), l.d.Images()) {
		l.t.Fatal("the second Open changed something")
	}
}

// use lets the store receive something, or commit.
func (l *life) use() {
	l.t.Helper()
	b := l.anyRow()
	call := func(x caller) api.Receipt { return x.Receive(b) }
	if l.r.Intn(4) == 0 {
		author, n := 1+l.r.Intn(3), l.r.Intn(100)
		call = func(x caller) api.Receipt { return x.Commit(author, int64(n), "", []api.Edit{put("c", n)}) }
		x := call(l.s.Replica())
		l.came[x.Id]++
	} else {
		l.came[digest.Sum(b)]++
	}
	x := call(l.s)
	y := l.ms.do(func(r *replica.Replica) api.Receipt { return call(r) })
	if !sameReceipt(x, y) {
		l.t.Fatalf("%v, not %v", x, y)
	}
	for _, h := range x.Taken {
		if x.Why != api.OK && x.Why != api.ErrFull {
			l.t.Fatalf("Taken with %d", x.Why)
		}
		l.promised[h]++
	}
}

// power lets the disk fail, or stop, or crashes it.
func (l *life) power() {
	l.t.Helper()
	n := l.r.Intn(6)
	switch l.r.Intn(6) {
	case 0, 1:
		l.d.Fail(n)
		l.m.fail = n
	case 2, 3:
		l.d.Stop(n)
		l.m.stop, l.m.stopped = n, false
	default:
		fates := anyFates(l.r, l.m.images(), l.junk)
		if why, modelWhy := l.d.Crash(fates), l.m.crash(fates); why != api.OK || modelWhy != api.OK {
			l.t.Fatalf("Crash: %d, %d", why, modelWhy)
		}
		l.s, l.ms = nil, nil
	}
}

// step does one thing.
func (l *life) step() {
	l.t.Helper()
	switch {
	case l.r.Intn(4) == 0:
		l.power()
	case l.s == nil || l.r.Intn(15) == 0:
		l.open()
	default:
		l.use()
	}
	sameDisk(l.t, l.d, l.m)
	if l.s != nil {
		sameStore(l.t, l.s, l.ms)
	}
}

// P24.4 to P24.7, P24.10, P24.11: fates without Junk: nothing that was Taken is lost, and nothing is accepted that was not handed in
func TestCrashes(t *testing.T) {
	for seed := range int64(250) {
		l := newLife(t, seed, 1000+int(seed%7)*300)
		for range 60 {
			l.step()
			if l.s == nil {
				continue
			}
			for _, h := range l.s.Replica().Accepted() {
				if l.came[h] == 0 {
					t.Fatalf("seed %d: %x was not handed in", seed, h)
				}
			}
		}
	}
}

// P24.8: with Junk too, even such as is a record
func TestCrashesWithJunk(t *testing.T) {
	for seed := range int64(250) {
		l := newLife(t, seed, 1000+int(seed%7)*300)
		l.junk = func(n int) []byte {
			b := framed(2, pick(l.r, l.w.rows[pick(l.r, l.w.ids...)], encoded(t, api.Update{Author: 8, Seq: 1, Time: int64(l.r.Intn(3))}), []byte("ESTJ")))
			if l.r.Intn(3) == 0 || len(b) > n {
				return anyBytes(l.r, n)
			}
			return b
		}
		for range 60 {
			l.step()
			if l.s == nil {
				continue
			}
			fresh, _ := replica.New(api.Options{Every: 1})
			for _, b := range l.s.Records() {
				if x := fresh.Receive(b); x.Why != api.OK {
					t.Fatalf("seed %d: a record that is not sound: %d", seed, x.Why)
				}
			}
			if !slices.Equal(fresh.Accepted(), l.s.Replica().Accepted()) {
				t.Fatalf("seed %d: what is accepted is not what was written down", seed)
			}
		}
	}
}

// P24.9: where nothing fails, and there is room, a store answers as its replica
func TestStoreIsReplica(t *testing.T) {
	for seed := range int64(150) {
		l := newLife(t, seed, 1<<20)
		l.open()
		alone, _ := replica.New(l.o)
		for range 60 {
			b := l.anyRow()
			call := func(x caller) api.Receipt { return x.Receive(b) }
			if l.r.Intn(4) == 0 {
				author, n := l.r.Intn(4), l.r.Intn(100)
				call = func(x caller) api.Receipt { return x.Commit(author, int64(n), "", []api.Edit{put("c", n)}) }
			}
			if x, y := call(l.s), call(alone); !sameReceipt(x, y) {
				t.Fatalf("seed %d: %v, not %v", seed, x, y)
			}
			sameReplica(t, l.s.Replica(), alone)
		}
		if l.s.ReadOnly() || len(l.s.Records()) != len(alone.Accepted()) {
			t.Fatalf("seed %d: %v, %d records", seed, l.s.ReadOnly(), len(l.s.Records()))
		}
	}
}

// P1: stores of one file, and a file that somebody else writes: no call panics
func TestTwoStores(t *testing.T) {
	for seed := range int64(100) {
		l := newLife(t, seed, 1500)
		stores := []*Store{nil}
		for range 60 {
			s := pick(l.r, stores...)
			switch l.r.Intn(8) {
			case 0:
				if s, why := Open(l.d, log, l.o); why == api.OK {
					stores = append(stores, s)
				}
			case 1:
				l.d.Append(log, anyBytes(l.r, l.r.Intn(40)))
			case 2:
				l.d.Cut(log, l.r.Intn(100))
			case 3:
				l.d.Crash(nil)
			case 4:
				s.Commit(1, 0, "", nil)
			default:
				s.Receive(l.anyRow())
			}
			s.Records()
			s.Replica().Render()
		}
	}
}
