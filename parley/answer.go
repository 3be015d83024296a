package parley

import (
	"bytes"
	"slices"

	"estuary/api"
	"estuary/bloom"
	"estuary/dag"
	"estuary/replica"
)

// answer is what is told behind a message.
func (m heard) answer(r *replica.Replica) api.Message {
	g := r.Graph()
	since := g.Tops(m.heads)
	return api.Message{
		Heads:   g.Heads(),
		Need:    m.needed(r, g),
		Since:   since,
		Filter:  bloom.Of(beyond(g, since)).Encode(),
		Updates: m.updates(r, g),
	}
}

// needed is what the replica, whose graph is g, lacks by name.
func (m heard) needed(r *replica.Replica, g *dag.Graph) []api.Hash {
	l := r.Missing()
	waits := setOf(r.Waiting())
	for _, h := range g.Lacks(m.heads) {
		if !waits.has(h) {
			l = append(l, h)
		}
	}
	slices.SortFunc(l, compare)
	l = slices.Compact(l)
	return l[:min(len(l), api.MaxUpdates)]
}

// updates are the bytes of what was asked for by name, and of what the other side seems to lack.
func (m heard) updates(r *replica.Replica, g *dag.Graph) [][]byte {
	named := m.named(g)
	return append(r.Bytes(named), r.Bytes(m.lacked(g, named))...)
}

// named is what was asked for by name, in the order: not more than may be sent.
func (m heard) named(g *dag.Graph) []api.Hash {
	need := setOf(m.need)
	l := slices.DeleteFunc(g.Order(), func(h api.Hash) bool { return !need.has(h) })
	return l[:min(len(l), api.MaxSend)]
}

// lacked is what the other side seems to lack beside those that are named, in the order: not more than may be sent with them.
func (m heard) lacked(g *dag.Graph, named []api.Hash) []api.Hash {
	if m.filter == nil {
		return nil
	}
	var l, gone []api.Hash
	sent := setOf(named)
gather:
	for _, h := range beyond(g, slices.Concat(m.heads, m.since)) {
		switch {
		case len(sent) == api.MaxSend:
			break gather
		case m.filter.Has(h) && !behind(g, gone, h):
			continue
		case !sent.has(h):
			sent.put(h)
			l = append(l, h)
		}
		gone = append(gone, h)
	}
	return l
}

// behind tells whether one of some updates is an ancestor of another.
func behind(g *dag.Graph, l []api.Hash, h api.Hash) bool {
	return slices.ContainsFunc(l, func(x api.Hash) bool { return g.Before(x, h) })
}

// beyond is all of a graph that is not in the past of some updates, in the order.
func beyond(g *dag.Graph, l []api.Hash) []api.Hash {
	past := setOf(g.Past(l))
	return slices.DeleteFunc(g.Order(), past.has)
}

// set is hashes, each once.
type set map[api.Hash]struct{}

func setOf(l []api.Hash) set {
	s := make(set, len(l))
	for _, h := range l {
		s.put(h)
	}
	return s
}

func (s set) put(h api.Hash) { s[h] = struct{}{} }

func (s set) has(h api.Hash) bool {
	_, is := s[h]
	return is
}

func compare(a, b api.Hash) int { return bytes.Compare(a[:], b[:]) }
