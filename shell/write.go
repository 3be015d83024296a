package shell

import (
	"strconv"

	"estuary/api"
	"estuary/dag"
	"estuary/draft"
	"estuary/edit"
	"estuary/parley"
	"estuary/replica"
	"estuary/undo"
)

const maxTold = 10000 // messages of one talk

func (l *line) makeNew() string {
	o := api.Options{Every: l.intAt(0), Keep: l.intAt(1), Orphans: l.intAt(2)}
	r, why := replica.New(o)
	if why != api.OK {
		return errno(why)
	}
	l.in.stations[l.made] = newStation(r, o)
	return say(done)
}

func (l *line) makeFork() string {
	x := l.at[0]
	l.in.stations[l.made] = newStation(x.Fork(), x.options)
	return say(done)
}

func (l *line) edit() string {
	e, why, _ := edit.Parse(l.rest)
	if why != api.OK {
		return errno(why)
	}
	return l.at[0].write(l.intAt(0), 0, "", []api.Edit{e})
}

func (l *line) commit() string {
	return l.at[0].write(l.intAt(0), l.numbers[1], l.texts[0], nil)
}

func (l *line) take() string {
	return receipt(l.at[0].Receive([]byte(l.values[0].S)))
}

// draft commits what a call makes of what the line's author does.
func (l *line) draft(call func(d *draft.Draft) api.Errno) string {
	return l.at[0].draft(l.intAt(0), call)
}

func (l *line) put() string {
	return l.draft(func(d *draft.Draft) api.Errno { return d.Put(l.ways[0], l.values[0]) })
}

func (l *line) del() string {
	return l.draft(func(d *draft.Draft) api.Errno { return d.Delete(l.ways[0]) })
}

func (l *line) add() string {
	return l.draft(func(d *draft.Draft) api.Errno { return d.Add(l.ways[0], l.numbers[1]) })
}

func (l *line) insert() string {
	return l.draft(func(d *draft.Draft) api.Errno { return d.Insert(l.ways[0], l.intAt(1), l.values[0]) })
}

func (l *line) typeText() string {
	return l.draft(func(d *draft.Draft) api.Errno { return d.Type(l.ways[0], l.intAt(1), l.intAt(2), l.texts[0]) })
}

func (l *line) rewrite() string {
	return l.draft(func(d *draft.Draft) api.Errno { return d.Rewrite(l.ways[0], l.texts[0]) })
}

func (l *line) mark() string {
	return l.draft(func(d *draft.Draft) api.Errno {
		return d.Mark(l.ways[0], l.intAt(1), l.intAt(2), l.texts[0], l.values[0])
	})
}

func (l *line) grow() string {
	return l.draft(func(d *draft.Draft) api.Errno { return d.Grow(l.ways[0], l.texts[0], l.values[0]) })
}

func (l *line) move() string {
	return l.draft(func(d *draft.Draft) api.Errno { return d.Move(l.ways[0], l.ways[1], l.texts[0]) })
}

func (l *line) prune() string {
	return l.draft(func(d *draft.Draft) api.Errno { return d.Prune(l.ways[0]) })
}

func (l *line) undo() string { return l.turnBack((*undo.Stack).Undo) }

func (l *line) redo() string { return l.turnBack((*undo.Stack).Redo) }

// turnBack commits what the stack of the line's author answers to a call.
func (l *line) turnBack(call func(*undo.Stack, *dag.Graph) ([]api.Edit, api.Errno)) string {
	x := l.at[0]
	s, why := x.stack(l.intAt(0))
	if why != api.OK {
		return errno(why)
	}
	edits, why := call(s, x.Graph())
	if why != api.OK {
		return errno(why)
	}
	r := x.Commit(l.intAt(0), 0, "", edits)
	if r.Why == api.OK {
		s.Done(x.Graph(), r.Id)
	}
	return receipt(r)
}

func (l *line) send() string {
	fine := 0
	for _, b := range l.at[0].Export() {
		if l.at[1].Receive(b).Why == api.OK {
			fine++
		}
	}
	return say("sent", strconv.Itoa(fine))
}

func (l *line) talk() string {
	p, q := parley.New(l.at[0].Replica), parley.New(l.at[1].Replica)
	told := 0
	for silent := 0; silent < 2 && told < maxTold; p, q = q, p {
		m, is := p.Tell()
		if !is {
			silent++
			continue
		}
		q.Hear(m)
		told++
		silent = 0
	}
	return say("talked", strconv.Itoa(told))
}
