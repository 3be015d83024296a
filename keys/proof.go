package keys

import (
	"bytes"
	"strconv"

	"estuary/api"
	"estuary/digest"
	"estuary/update"
	"estuary/wire"
)

// claim is what an author said, as they sealed it.
type claim struct {
	sealed []byte
	turn   turn
	id     api.Hash
}

// claimed reads sealed bytes, which are long enough. Whose the tag is plays no part.
func claimed(sealed []byte) (claim, api.Errno) {
	body, _ := parted(sealed)
	u, why, _ := update.Decode(body)
	if why != api.OK {
		return claim{}, why
	}
	return claim{sealed, turn{u.Author, u.Seq}, digest.Sum(body)}, api.OK
}

// Proof shows by two sealed updates that an author said two things at one time.
func Proof(a, b []byte) ([]byte, api.Errno) {
	if len(a) < tagSize || len(b) < tagSize {
		return nil, api.ErrShort
	}
	low, why := claimed(a)
	if why != api.OK {
		return nil, why
	}
	high, why := claimed(b)
	if why != api.OK {
		return nil, why
	}
	if low.turn != high.turn || low.id == high.id {
		return nil, api.ErrProof
	}
	if digest.Compare(low.id, high.id) > 0 {
		low, high = high, low
	}
	var w wire.Writer
	w.Raw(low.sealed)
	w.Raw(high.sealed)
	return w.Done()
}

// refusal is the error with which the reading of a proof is given up.
type refusal struct {
	why api.Errno
}

func (r refusal) Error() string {
	return "not a proof: errno " + strconv.Itoa(int(r.why))
}

// must gives up, if something is wrong.
func must(why api.Errno) {
	if why != api.OK {
		panic(refusal{why})
	}
}

// number is that of the refusal that was caught. What is none was not thrown here, and goes on.
func number(caught any) api.Errno {
	r, is := caught.(refusal)
	if !is {
		panic(caught)
	}
	return r.why
}

// Judge looks whether a proof shows it, by tags that the author's key makes.
func (r *Ring) Judge(p []byte) (fork api.Fork, why api.Errno) {
	if r == nil {
		return api.Fork{}, api.ErrNil
	}
	defer func() {
		if caught := recover(); caught != nil {
			fork, why = api.Fork{}, number(caught)
		}
	}()
	return r.read(p), api.OK
}

// read is the fork that a proof shows; it gives up at the first thing that is wrong.
func (r *Ring) read(p []byte) api.Fork {
	a, b := pair(p)
	low, high := r.heldAgainst(a), r.heldAgainst(b)
	again, why := Proof(a, b)
	if why != api.OK || !bytes.Equal(again, p) {
		must(api.ErrProof)
	}
	return api.Fork{Author: low.turn.author, Seq: low.turn.seq, Ids: []api.Hash{low.id, high.id}}
}

// pair is the two sealed updates of a proof.
func pair(p []byte) ([]byte, []byte) {
	r := wire.NewReader(p)
	a := r.Raw(api.MaxUpdate + tagSize)
	b := r.Raw(api.MaxUpdate + tagSize)
	why, _ := r.Done()
	must(why)
	return a, b
}

// heldAgainst is what an author said, whose key made the tag.
func (r *Ring) heldAgainst(sealed []byte) claim {
	_, _, why := r.Open(sealed)
	must(why)
	c, _ := claimed(sealed)
	return c
}
