package gossip

import (
	"estuary/api"
	"estuary/parley"
	"estuary/replica"
)

// node is one of a net's replicas, with all that is its own. What it has for another one stands at that one's number; what stands at its own is never used.
type node struct {
	*replica.Replica
	peers []*parley.Peer
	ways  [][][]byte // the messages under way to each, the oldest first
	store store
}

func newNode(r *replica.Replica, n int) *node {
	x := &node{Replica: r, peers: make([]*parley.Peer, n), ways: make([][][]byte, n), store: store{rows: map[api.Hash][]byte{}}}
	x.greet()
	return x
}

// greet begins all talks anew.
func (x *node) greet() {
	for i := range x.peers {
		x.peers[i] = parley.New(x.Replica)
	}
}

// tells is what it has to say to another one, as bytes.
func (x *node) tells(to int) ([]byte, bool) {
	m, is := x.peers[to].Tell()
	if !is {
		return nil, false
	}
	b, _ := parley.Encode(m) // what a peer tells can always be written
	return b, true
}

// hears takes bytes that came as another one's, whoever sent them.
func (x *node) hears(from int, b []byte) api.Errno {
	m, why, _ := parley.Decode(b)
	if why != api.OK {
		return why
	}
	return x.peers[from].Hear(m)
}

// crash leaves of it what it wrote down. Messages under way are the network's, and stay.
func (x *node) crash(o api.Options) {
	x.Replica = x.store.read(o)
	x.greet()
}

// store is the bytes of all that a replica had accepted when it wrote that down. What an update's bytes are never changes, so that each is made once.
type store struct {
	order []api.Hash
	rows  map[api.Hash][]byte
}

func (s *store) lacks(h api.Hash) bool {
	_, is := s.rows[h]
	return !is
}

// write lets all that a replica has accepted take the place of what was written.
func (s *store) write(r *replica.Replica) {
	s.order = r.Accepted()
	var late []api.Hash
	for _, h := range s.order {
		if s.lacks(h) {
			late = append(late, h)
		}
	}
	for i, b := range r.Bytes(late) {
		s.rows[late[i]] = b
	}
}

// read is a fresh replica that has received what was written.
func (s *store) read(o api.Options) *replica.Replica {
	r, _ := replica.New(o) // by these options there is one already
	for _, h := range s.order {
		r.Receive(s.rows[h])
	}
	return r
}
