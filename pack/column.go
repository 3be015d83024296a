package pack

import (
	"slices"

	"estuary/api"
	"estuary/edit"
	"estuary/wire"
)

// form is how the things of a column are written, and how so many of them are read again.
type form[T any] struct {
	write func(l []T) []byte
	read  func(b []byte, n int) ([]T, error)
}

func asRuns() form[uint64] { return form[uint64]{Runs, unRuns} }

func asDeltas() form[int64] { return form[int64]{Deltas, unDeltas} }

func asHashes() form[api.Hash] { return each((*wire.Writer).Hash, (*wire.Reader).Hash) }

func asNotes() form[string] {
	return each((*wire.Writer).Text, func(r *wire.Reader) string { return r.Text(api.MaxNote) })
}

func asEdits() form[api.Edit] { return each(edit.Write, edit.Read) }

// each is the form of things that stand one behind the other, by how one of them is written and read.
func each[T any](write func(w *wire.Writer, x T), read func(r *wire.Reader) T) form[T] {
	return form[T]{
		write: func(l []T) []byte {
			var w wire.Writer
			for _, x := range l {
				write(&w, x)
			}
			b, _ := w.Done()
			return b
		},
		read: func(b []byte, n int) ([]T, error) {
			r := wire.NewReader(b)
			var l []T
			for len(l) < n && !stopped(r) {
				l = append(l, read(r))
			}
			return l, ended(r)
		},
	}
}

// column writes things as one Raw.
func column[T any](w *wire.Writer, f form[T], l []T) {
	w.Raw(f.write(l))
}

// part is a column's bytes, and the place of their Raw.
type part struct {
	b  []byte
	at int
}

// reading is columns that are read one behind the other, till one of them has a fault.
type reading struct {
	parts []part
	err   error
}

// next reads the next column: n things, each of which fits at its number. Behind a fault nothing is looked at, as how many things a column has hangs on those ahead.
func next[T any](r *reading, f form[T], n int, fits func(i int, x T) bool) []T {
	p := r.parts[0]
	r.parts = r.parts[1:]
	if r.err != nil {
		return nil
	}
	l, err := f.read(p.b, n)
	if err != nil || !allFit(l, fits) {
		r.err = &fault{api.ErrColumn, p.at}
		return nil
	}
	return l
}

func allFit[T any](l []T, fits func(i int, x T) bool) bool {
	for i, x := range l {
		if !fits(i, x) {
			return false
		}
	}
	return true
}

// whatever fits, if its form could be read.
func whatever[T any](int, T) bool { return true }

// upTo fits what is not above a number.
func upTo[T int64 | uint64](most T) func(i int, x T) bool {
	return func(_ int, x T) bool { return x <= most }
}

// front takes the first n things off a list; they are answered in memory of their own.
func front[T any](l *[]T, n uint64) []T {
	taken := slices.Clone((*l)[:n])
	*l = (*l)[n:]
	return taken
}
