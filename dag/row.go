package dag

import "math"

const wordBits = 64

// row is a set of places, a bit for each.
type row []uint64

// newRow has room for so many places, and none of them.
func newRow(room int) row {
	return make(row, (room+wordBits-1)/wordBits)
}

// fullRow has so many places, all of them (what is beyond them in the last word, nobody asks for).
func fullRow(room int) row {
	r := newRow(room)
	for i := range r {
		r[i] = math.MaxUint64
	}
	return r
}

// copied is a row of its own with the same places, and room for so many.
func (r row) copied(room int) row {
	c := newRow(room)
	copy(c, r)
	return c
}

func (r row) has(place int) bool {
	word := place / wordBits
	return word < len(r) && r[word]>>(place%wordBits)&1 == 1
}

func (r row) put(place int) {
	r[place/wordBits] |= 1 << (place % wordBits)
}

// join puts in all places of another row, which has no more room.
func (r row) join(other row) {
	for i, w := range other {
		r[i] |= w
	}
}

// meet takes out all places that another row, of the same room, does not have.
func (r row) meet(other row) {
	for i, w := range other {
		r[i] &= w
	}
}
