// Package places is no layer, but what dag and policy have in common: sets of places in a row of updates. See ../../shared/doc/06-dag.md.
package places

import (
	"math"
	"math/bits"
)

const wordBits = 64

// Set is a set of places, a bit for each.
type Set []uint64

// New has room for so many places, and none of them.
func New(room int) Set {
	return make(Set, (room+wordBits-1)/wordBits)
}

// Full has so many places, all of them (what is beyond them in the last word, nobody asks for).
func Full(room int) Set {
	s := New(room)
	for i := range s {
		s[i] = math.MaxUint64
	}
	return s
}

// Copied is a set of its own with the same places, and room for so many.
func (s Set) Copied(room int) Set {
	c := New(room)
	copy(c, s)
	return c
}

// Has tells whether a place is in.
func (s Set) Has(place int) bool {
	word := place / wordBits
	return word < len(s) && s[word]>>(place%wordBits)&1 == 1
}

// Put puts a place in, for which there is room.
func (s Set) Put(place int) {
	s[place/wordBits] |= 1 << (place % wordBits)
}

// Join puts in all places of another set, which has no more room.
func (s Set) Join(other Set) {
	for i, w := range other {
		s[i] |= w
	}
}

// Met is a set of its own with the places that both sets have.
func (s Set) Met(other Set) Set {
	m := make(Set, min(len(s), len(other)))
	for i := range m {
		m[i] = s[i] & other[i]
	}
	return m
}

// Drop takes out all places that another set, which has no more room, has.
func (s Set) Drop(other Set) {
	for i, w := range other {
		s[i] &^= w
	}
}

// Below is the greatest place in the set that is below another one; -1, if there is none.
func (s Set) Below(place int) int {
	word, mask := place/wordBits, uint64(1)<<(place%wordBits)-1
	if word >= len(s) {
		word, mask = len(s)-1, math.MaxUint64
	}
	for ; word >= 0; word-- {
		if w := s[word] & mask; w != 0 {
			return word*wordBits + bits.Len64(w) - 1
		}
		mask = math.MaxUint64
	}
	return -1
}
