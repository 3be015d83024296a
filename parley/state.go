package parley

import (
	"slices"

	"estuary/api"
	"estuary/bloom"
	"estuary/replica"
)

// state is what a peer heard last, and whether it has told something since.
type state interface {
	// next is what is told now, and the state behind that.
	next(r *replica.Replica) (api.Message, state)
}

type (
	unheard  struct{}        // nothing was heard
	asked    struct{ heard } // nothing was told since
	answered struct{ heard } // something was told since
)

// heard is what is kept of a message. Its updates are the replica's by now.
type heard struct {
	heads, need, since []api.Hash
	filter             *bloom.Filter // nil, if the message has none
}

// heardOf is what is kept of a message that may be.
func heardOf(m api.Message) heard {
	f, _, _ := bloom.Decode(m.Filter)
	return heard{heads: slices.Clone(m.Heads), need: slices.Clone(m.Need), since: slices.Clone(m.Since), filter: f}
}

// evenAt tells whether the other side, as far as it was heard, has these heads, and knows that they are the same on this side: it was told so, or says so itself.
func evenAt(s state, heads []api.Hash) bool {
	switch s := s.(type) {
	case asked:
		return slices.Equal(s.heads, heads) && slices.Equal(s.since, heads) && s.filter != nil
	case answered:
		return slices.Equal(s.heads, heads)
	}
	return false
}

func (s unheard) next(r *replica.Replica) (api.Message, state) {
	return api.Message{Heads: r.Frontier(), Need: r.Missing()}, s
}

func (s asked) next(r *replica.Replica) (api.Message, state) {
	return s.answer(r), answered{s.heard}
}

func (s answered) next(r *replica.Replica) (api.Message, state) {
	return s.answer(r), s
}
