package gossip

import (
	"slices"
	"strconv"

	"estuary/api"
)

const (
	fine    = "ok"
	nothing = "none"
)

// errno tells an error, or that there is none.
func errno(e api.Errno) string {
	if e == api.OK {
		return fine
	}
	return "errno " + strconv.Itoa(int(e))
}

// Do does a step: its answer as a text.
func (n *Net) Do(s api.NetStep) string {
	if n == nil {
		return errno(api.ErrNil)
	}
	n.lock.Lock()
	defer n.lock.Unlock()
	if why := n.refuses(s); why != api.OK {
		return errno(why)
	}
	switch s.Kind {
	case api.NetWrite:
		return n.write(s.A, s.Author, s.Edits)
	case api.NetMeet:
		return n.meet(s.A, s.B)
	case api.NetLie:
		return n.arrive(s.A, s.B, s.Bytes)
	case api.NetCrash:
		n.nodes[s.A].crash(n.options)
		return fine
	case api.NetSettle:
		return fine + " " + strconv.Itoa(n.settle())
	}
	return n.carry(s.Kind, s.A, s.B)
}

// refuses tells what is wrong with a step, by the fields that its kind uses.
func (n *Net) refuses(s api.NetStep) api.Errno {
	switch {
	case s.Kind < api.NetWrite || s.Kind > api.NetSettle:
		return api.ErrRange
	case s.Kind == api.NetSettle:
		return api.OK
	case !n.has(s.A):
		return api.ErrNode
	case s.Kind >= api.NetMeet && s.Kind <= api.NetLie && (!n.has(s.B) || s.A == s.B):
		return api.ErrNode
	}
	return api.OK
}

// write lets a replica commit what an author says.
func (n *Net) write(a, author int, l []api.Edit) string {
	x := n.nodes[a]
	r := x.Commit(author, 0, "", l)
	if len(r.Taken) > 0 {
		x.store.write(x.Replica)
	}
	return errno(r.Why)
}

// meet sends what a replica has to say to another one on its way.
func (n *Net) meet(a, b int) string {
	said, is := n.nodes[a].tells(b)
	if !is {
		return nothing
	}
	n.nodes[a].ways[b] = append(n.nodes[a].ways[b], said)
	return fine
}

// carry is what becomes of a message under way: it arrives, unless it is lost, and is under way no more, unless it comes twice.
func (n *Net) carry(k api.NetKind, a, b int) string {
	way := n.nodes[a].ways[b]
	if len(way) == 0 {
		return nothing
	}
	at := 0
	if k == api.NetLast {
		at = len(way) - 1
	}
	said := way[at]
	if k != api.NetTwice {
		n.nodes[a].ways[b] = slices.Delete(way, at, at+1)
	}
	if k == api.NetLose {
		return fine
	}
	return n.arrive(a, b, said)
}

// arrive brings bytes to a replica as if another one had sent them.
func (n *Net) arrive(a, b int, said []byte) string {
	x := n.nodes[b]
	why := x.hears(a, said)
	x.store.write(x.Replica)
	return errno(why)
}
