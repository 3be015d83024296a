package pack

import (
	"math"

	"estuary/api"
	"estuary/wire"
)

// Runs writes numbers as runs, and as rows where no two behind one another are alike.
func Runs(l []uint64) []byte {
	var w wire.Writer
	for len(l) > 0 {
		n := alike(l)
		if n > 1 {
			w.Int(int64(n))
			w.Uint(l[0])
		} else {
			n = unlike(l)
			writeRow(&w, l[:n])
		}
		l = l[n:]
	}
	b, _ := w.Done()
	return b
}

func writeRow(w *wire.Writer, l []uint64) {
	w.Int(-int64(len(l)))
	for _, x := range l {
		w.Uint(x)
	}
}

// alike is how many numbers at the front are the first one.
func alike(l []uint64) int {
	n := 1
	for n < len(l) && l[n] == l[0] {
		n++
	}
	return n
}

// unlike is how many numbers stand ahead of the first two that are alike.
func unlike(l []uint64) int {
	for n := 1; n < len(l); n++ {
		if l[n] == l[n-1] {
			return n - 1
		}
	}
	return len(l)
}

// UnRuns reads just what Runs writes of so many numbers; the place of the fault, where there is one.
func UnRuns(b []byte, n int) ([]uint64, api.Errno, int) {
	l, err := unRuns(b, n)
	why, at := told(err)
	return l, why, at
}

// unRuns lays the numbers out only when all are known to be there: few bytes may speak of more than there is memory for.
func unRuns(b []byte, n int) ([]uint64, error) {
	if n < 0 {
		return nil, &fault{why: api.ErrRange}
	}
	r := wire.NewReader(b)
	var all []stretch
	left := n
	for r.Left() > 0 && !stopped(r) {
		s := readStretch(r, left, all)
		all = append(all, s)
		left -= s.count
	}
	if left > 0 {
		r.Fail(api.ErrColumn, r.At())
	}
	if err := ended(r); err != nil {
		return nil, err
	}
	return layOut(all, n), nil
}

// stretch is a run, whose one number stands count times, or a row.
type stretch struct {
	row     bool
	count   int
	numbers []uint64
}

func (s *stretch) first() uint64 { return s.numbers[0] }

func (s *stretch) last() uint64 { return s.numbers[len(s.numbers)-1] }

// readStretch reads a run or a row of at most so many numbers, behind others.
func readStretch(r *wire.Reader, most int, ahead []stretch) stretch {
	at := r.At()
	count := int(r.Int())
	switch {
	case count == 0 || count == 1:
		r.Fail(api.ErrForm, at)
	case count > most || count < -most:
		r.Fail(api.ErrColumn, at)
	}
	s := stretch{row: count < 0, count: max(count, -count)}
	s.readNumbers(r)
	if !stopped(r) && !s.fits(ahead) {
		r.Fail(api.ErrForm, at)
	}
	return s
}

// readNumbers reads the numbers that are written for it, of a run just one.
func (s *stretch) readNumbers(r *wire.Reader) {
	written := 1
	if s.row {
		written = s.count
	}
	for len(s.numbers) < written && !stopped(r) {
		s.numbers = append(s.numbers, r.Uint(math.MaxUint64))
	}
}

// fits tells whether Runs writes it behind these.
func (s *stretch) fits(ahead []stretch) bool {
	if s.row && unlike(s.numbers) < len(s.numbers) {
		return false
	}
	if len(ahead) == 0 {
		return true
	}
	before := &ahead[len(ahead)-1]
	return !(s.row && before.row) && s.first() != before.last()
}

// layOut is the numbers of stretches, n in all.
func layOut(all []stretch, n int) []uint64 {
	l := make([]uint64, 0, n)
	for _, s := range all {
		if s.row {
			l = append(l, s.numbers...)
			continue
		}
		for range s.count {
			l = append(l, s.first())
		}
	}
	return l
}

// Deltas writes numbers as runs of what each is more than the one ahead.
func Deltas(l []int64) []byte {
	folded := make([]uint64, len(l))
	var ahead int64
	for i, x := range l {
		folded[i] = fold(x - ahead)
		ahead = x
	}
	return Runs(folded)
}

// UnDeltas reads just what Deltas writes of so many numbers; the place of the fault, where there is one.
func UnDeltas(b []byte, n int) ([]int64, api.Errno, int) {
	l, err := unDeltas(b, n)
	why, at := told(err)
	return l, why, at
}

func unDeltas(b []byte, n int) ([]int64, error) {
	folded, err := unRuns(b, n)
	if err != nil {
		return nil, err
	}
	l := make([]int64, len(folded))
	var ahead int64
	for i, x := range folded {
		ahead += unfold(x)
		l[i] = ahead
	}
	return l, nil
}

// fold makes a number with sign one without, as wire does: 0, -1, 1, -2 are 0, 1, 2, 3.
func fold(x int64) uint64 {
	return uint64(x)<<1 ^ uint64(x>>63)
}

func unfold(x uint64) int64 {
	return int64(x>>1) ^ -int64(x&1)
}
