package shell

import (
	"slices"

	"estuary/api"
	"estuary/draft"
	"estuary/pack"
	"estuary/replica"
	"estuary/undo"
	"estuary/update"
)

// station is a replica that has a name, with what its authors can undo.
type station struct {
	*replica.Replica
	options api.Options
	stacks  map[int]*undo.Stack // by their authors
}

func newStation(r *replica.Replica, o api.Options) *station {
	return &station{Replica: r, options: o, stacks: map[int]*undo.Stack{}}
}

// stack is an author's, which is made when it is asked for first.
func (x *station) stack(author int) (*undo.Stack, api.Errno) {
	if s, is := x.stacks[author]; is {
		return s, api.OK
	}
	s, why := undo.New(author)
	if why == api.OK {
		x.stacks[author] = s
	}
	return s, why
}

// write commits edits that their author can undo.
func (x *station) write(author int, time int64, note string, l []api.Edit) string {
	r := x.Commit(author, time, note, l)
	if r.Why == api.OK {
		s, _ := x.stack(author) // who can commit can have a stack
		s.Note(x.Graph(), r.Id)
	}
	return receipt(r)
}

// draft commits the edits that a call makes of what an author does.
func (x *station) draft(author int, call func(d *draft.Draft) api.Errno) string {
	d, why := draft.New(x.Graph(), author)
	if why != api.OK {
		return errno(why)
	}
	if why = call(d); why != api.OK {
		return errno(why)
	}
	return x.write(author, 0, "", d.Edits())
}

// updates are all that are accepted, in the order.
func (x *station) updates() []api.Update {
	var l []api.Update
	g := x.Graph()
	for _, h := range g.Order() {
		u, _ := g.Update(h)
		l = append(l, u)
	}
	return l
}

// isPacked tells whether saved bytes, loaded by a fresh replica, are this one.
func (x *station) isPacked(b []byte) bool {
	o := x.options
	o.Orphans = 0
	r, _ := replica.New(o) // by these options but for Orphans there is one already
	l, _, _ := pack.Load(b)
	for _, u := range l {
		row, _ := update.Encode(u)
		r.Receive(row)
	}
	return slices.Equal(r.Accepted(), x.Accepted()) && r.Render() == x.Render()
}
