package policy

import "estuary/api"

const founder = 1 // the author whose rank is MaxRank, always

// What is done by who has a rank.
const (
	write  = iota // an update
	grant         // a Grant
	revoke        // a Revoke
)

// What that rank is held against.
const (
	nothing = iota
	given   // the rank that is given
	had     // the rank of who gets it
)

// stakes are the ranks that one is held against, by these numbers.
type stakes [3]int

// above is, of each deed, what the rank of who does it must be above.
var above = [...][2]int{
	write:  {nothing, nothing},
	grant:  {given, had},
	revoke: {nothing, had},
}

// may tells whether who has a rank may do a deed.
func may(deed, rank int, s stakes) bool {
	for _, against := range above[deed] {
		if rank <= s[against] {
			return false
		}
	}
	return true
}

// deedOf is what an edit does to the rank of an author; false, if it is no such edit, or of the founder, whose rank stays.
func deedOf(e api.Edit) (int, bool) {
	switch e.Act {
	case api.Grant:
		return grant, e.Who != founder
	case api.Revoke:
		return revoke, e.Who != founder
	}
	return 0, false
}
