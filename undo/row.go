package undo

import "slices"

// row is things one behind the other, the newest last: not more than a limit.
type row[T comparable] struct {
	limit int
	kept  []T
}

func (r row[T]) fork() row[T] {
	return row[T]{limit: r.limit, kept: slices.Clone(r.kept)}
}

func (r row[T]) size() int { return len(r.kept) }

func (r row[T]) has(x T) bool { return slices.Contains(r.kept, x) }

// newest is the last one; false, if there is none.
func (r row[T]) newest() (T, bool) {
	if len(r.kept) == 0 {
		var none T
		return none, false
	}
	return r.kept[len(r.kept)-1], true
}

// put makes x the newest. Of too many the oldest goes.
func (r *row[T]) put(x T) {
	r.kept = append(r.kept, x)
	if len(r.kept) > r.limit {
		r.kept = slices.Delete(r.kept, 0, 1)
	}
}

// drop takes the newest away, if there is one.
func (r *row[T]) drop() {
	r.kept = r.kept[:max(len(r.kept)-1, 0)]
}

func (r *row[T]) empty() { r.kept = nil }
