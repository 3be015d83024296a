package seq

import (
	"iter"
	"slices"
)

// none is no spot. It also stands for the front, which has the whole tree to its right: what is put at the front is put right behind it, like all else.
const none = 0

// The sides of a spot.
const (
	left = iota
	right
)

// What is counted: all things, or those that are shown.
const (
	all = iota
	live
)

// A side that is more than heavy times the other one is lightened; with an inner part of inward times its outer part or more that takes two turns. With these two numbers one turn, or two, at each spot up to the root make good what one put or take has done (weight-balanced trees).
const (
	heavy  = 3
	inward = 2
)

// row is things in an order, each shown or hidden: a tree of spots, with what stands ahead of a spot to its left, and what stands behind it to its right. It stays even whatever is put where, so that nobody makes it slow by what they write.
// Spots know one another by their numbers in one slice: a copy of that is a copy of the row.
type row[T any] struct {
	spots []spot[T]
}

// spot is where a thing stands in the tree.
type spot[T any] struct {
	kept  T
	shown bool
	up    int
	down  [2]int
	count [2]int // in the part of the tree from here down
}

func newRow[T any]() row[T] {
	return row[T]{spots: make([]spot[T], 1)}
}

func (r *row[T]) clone() row[T] {
	return row[T]{spots: slices.Clone(r.spots)}
}

func (r *row[T]) root() int {
	return r.spots[none].down[right]
}

// many is how many there are.
func (r *row[T]) many(what int) int {
	return r.spots[r.root()].count[what]
}

// put lets a thing stand right behind a spot, shown, and answers its spot.
func (r *row[T]) put(behind int, kept T) int {
	at := len(r.spots)
	r.spots = append(r.spots, spot[T]{kept: kept, shown: true})
	if next := r.spots[behind].down[right]; next == none {
		r.hang(behind, right, at)
	} else {
		r.hang(r.first(next), left, at)
	}
	r.mend(at)
	return at
}

// take takes a spot out. The spot with the greatest number gets its number.
func (r *row[T]) take(at int) {
	s := r.spots[at]
	changed := s.up
	switch none {
	case s.down[left]:
		r.replace(at, s.down[right])
	case s.down[right]:
		r.replace(at, s.down[left])
	default:
		changed = r.replaceByNext(at)
	}
	r.mend(changed)
	r.fill(at)
}

// replaceByNext lets the spot right behind one that has two sides stand in its stead, and answers the lowest spot that has lost something.
func (r *row[T]) replaceByNext(at int) int {
	next := r.first(r.spots[at].down[right])
	changed := r.spots[next].up
	r.replace(next, r.spots[next].down[right])
	r.replace(at, next)
	for side, part := range r.spots[at].down {
		r.hang(next, side, part)
	}
	if changed == at {
		return next
	}
	return changed
}

// fill moves the last spot to a number that has become free, so that no room is kept for what is gone.
func (r *row[T]) fill(free int) {
	last := len(r.spots) - 1
	if free != last {
		r.replace(last, free)
		r.spots[free] = r.spots[last]
		for side, part := range r.spots[free].down {
			r.hang(free, side, part)
		}
	}
	r.spots = slices.Delete(r.spots, last, last+1)
}

// show shows a thing, or hides it.
func (r *row[T]) show(at int, shown bool) {
	r.spots[at].shown = shown
	r.mend(at)
}

// first is the spot that stands ahead of all others from one down.
func (r *row[T]) first(at int) int {
	for r.spots[at].down[left] != none {
		at = r.spots[at].down[left]
	}
	return at
}

// side tells on which side of the one above it a spot hangs.
func (r *row[T]) side(at int) int {
	if r.spots[r.spots[at].up].down[left] == at {
		return left
	}
	return right
}

// hang hangs a part of the tree on one side of a spot.
func (r *row[T]) hang(up, side, part int) {
	r.spots[up].down[side] = part
	if part != none {
		r.spots[part].up = up
	}
}

// replace hangs a part of the tree where a spot hangs.
func (r *row[T]) replace(at, part int) {
	r.hang(r.spots[at].up, r.side(at), part)
}

// mend counts anew from a spot up, and makes even what has become uneven.
func (r *row[T]) mend(at int) {
	for at != none {
		r.tally(at)
		at = r.spots[r.even(at)].up
	}
}

func (r *row[T]) tally(at int) {
	for what := range r.spots[at].count {
		r.spots[at].count[what] = r.upTo(at, what) + r.spots[r.spots[at].down[right]].count[what]
	}
}

// upTo is how many there are in the part from a spot down, up to the spot itself.
func (r *row[T]) upTo(at, what int) int {
	return r.under(at, left, what) + r.own(at, what)
}

// under is how many there are on one side of a spot.
func (r *row[T]) under(at, side, what int) int {
	return r.spots[r.spots[at].down[side]].count[what]
}

// own is 1, if a spot itself counts.
func (r *row[T]) own(at, what int) int {
	if what == all || r.spots[at].shown {
		return 1
	}
	return 0
}

// weight is above 0 where there is nothing, too: else a side of one would count as heavy beside none.
func (r *row[T]) weight(at int) int {
	return r.spots[at].count[all] + 1
}

// even lightens the side of a spot that is too heavy, if one is, and answers which spot stands there now.
func (r *row[T]) even(at int) int {
	for side, part := range r.spots[at].down {
		other := 1 - side
		if r.weight(part) <= heavy*r.weight(r.spots[at].down[other]) {
			continue
		}
		inner, outer := r.spots[part].down[other], r.spots[part].down[side]
		if r.weight(inner) >= inward*r.weight(outer) {
			r.lift(inner)
			part = inner
		}
		r.lift(part)
		return part
	}
	return at
}

// lift turns the tree so that a spot stands above the one that it hung on; the order stays.
func (r *row[T]) lift(at int) {
	up, side := r.spots[at].up, r.side(at)
	r.replace(up, at)
	r.hang(up, side, r.spots[at].down[1-side])
	r.hang(at, 1-side, up)
	r.tally(up)
	r.tally(at)
}

// ahead is how many stand ahead of a spot.
func (r *row[T]) ahead(at, what int) int {
	n := r.under(at, left, what)
	for up := r.spots[at].up; up != none; up = r.spots[at].up {
		if r.side(at) == right {
			n += r.upTo(up, what)
		}
		at = up
	}
	return n
}

// find is the spot that counts and that has n ahead of it, or none.
func (r *row[T]) find(n, what int) int {
	at := r.root()
	for at != none {
		ahead, upTo := r.under(at, left, what), r.upTo(at, what)
		switch {
		case n < ahead:
			at = r.spots[at].down[left]
		case n < upTo:
			return at
		default:
			n -= upTo
			at = r.spots[at].down[right]
		}
	}
	return none
}

// walk goes through the things in their order.
func (r *row[T]) walk(what int) iter.Seq[T] {
	return func(yield func(T) bool) {
		r.pass(r.root(), what, yield)
	}
}

// pass yields what stands from a spot down, and tells whether more is wanted. Where nothing counts it does not look.
func (r *row[T]) pass(at, what int, yield func(T) bool) bool {
	s := &r.spots[at]
	if s.count[what] == 0 {
		return true
	}
	return r.pass(s.down[left], what, yield) &&
		(r.own(at, what) == 0 || yield(s.kept)) &&
		r.pass(s.down[right], what, yield)
}
