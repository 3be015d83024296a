package places

import (
	"math/rand"
	"slices"
	"testing"
)

// What lies beyond a set is not in it, and copies are apart.
func TestEdges(t *testing.T) {
	for _, room := range []int{0, 1, 63, 64, 65, 128} {
		s := New(room)
		for place := range 200 {
			if s.Has(place) || Full(room).Has(place) != (place < (room+63)/64*64) {
				t.Errorf("room %d: %d", room, place)
			}
		}
		c := s.Copied(room + 1)
		c.Put(room)
		if !c.Has(room) || s.Has(room) || c.Has(room+1) || c.Below(room+1) != room || c.Below(room) != -1 || s.Below(room) != -1 {
			t.Errorf("a copy of the room %d", room)
		}
	}
	if Set(nil).Has(0) || Set(nil).Below(70) != -1 || len(Set(nil).Copied(65)) != 2 {
		t.Error("no set")
	}
}

// in is a set's places, rising.
func in(s Set) []int {
	var l []int
	for place := range 64 * len(s) {
		if s.Has(place) {
			l = append(l, place)
		}
	}
	return l
}

// Sets taken together tell of each place what both say of it.
func TestTogether(t *testing.T) {
	r := rand.New(rand.NewSource(1))
	for range 300 {
		room := 1 + r.Intn(200)
		a, b := New(room), New(room)
		for range r.Intn(room) {
			a.Put(r.Intn(room))
			b.Put(r.Intn(room))
		}
		join, meet, drop := a.Copied(room), a.Met(b), a.Copied(room)
		join.Join(b)
		drop.Drop(b)
		for place := range room {
			x, y := a.Has(place), b.Has(place)
			if join.Has(place) != (x || y) || meet.Has(place) != (x && y) || drop.Has(place) != (x && !y) {
				t.Fatalf("%v with %v at %d", in(a), in(b), place)
			}
		}
		last := -1
		for place := range room + 200 {
			if a.Below(place) != last {
				t.Fatalf("of %v below %d: %d", in(a), place, a.Below(place))
			}
			if a.Has(place) {
				last = place
			}
		}
	}
}

// What has less room is joined, met, and dropped, all the same.
func TestLessRoom(t *testing.T) {
	few := New(60)
	few.Put(3)
	many := Full(130)
	many.Drop(few)
	if many.Has(3) || !many.Has(2) || !many.Has(129) {
		t.Errorf("dropped: %v", in(many))
	}
	many.Join(few)
	if !many.Has(3) {
		t.Error("joined")
	}
	if l := in(many.Met(few)); !slices.Equal(l, []int{3}) || !slices.Equal(in(few.Met(many)), l) {
		t.Errorf("met: %v", l)
	}
	few.Put(4)
	if !slices.Equal(in(few.Met(few)), []int{3, 4}) {
		t.Error("met by itself")
	}
}
