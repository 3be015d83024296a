package draft

import (
	"unicode/utf8"

	"estuary/api"
	"estuary/way"
	"estuary/words"
)

// Put puts a value where a way leads; at a key of a map also where nothing lies yet.
func (d *Draft) Put(steps []api.Step, v api.Value) api.Errno {
	return d.act(func(c *call) api.Errno {
		p, why := d.target(steps)
		if why != api.OK {
			return why
		}
		e := editAt(api.Put, p)
		e.Value = v
		return c.say(e)
	})
}

// target is the place at which a way lets something be put.
func (d *Draft) target(steps []api.Step) (api.Place, api.Errno) {
	if len(steps) == 0 || steps[len(steps)-1].Kind != api.ByKey {
		s, why := d.lies(steps)
		return s.place, why
	}
	if why := way.Right(steps); why != api.OK {
		return api.Place{}, why
	}
	s, why := d.find(way.Up(steps))
	switch {
	case why != api.OK:
		return api.Place{}, why
	case s.kind() != api.Map:
		return api.Place{}, api.ErrSort
	}
	return api.Place{Obj: s.top.Id, Key: steps[len(steps)-1].Key}, api.OK
}

// Delete takes away what lies at a way.
func (d *Draft) Delete(steps []api.Step) api.Errno {
	return d.act(func(c *call) api.Errno {
		s, why := d.lies(steps)
		switch {
		case why != api.OK:
			return why
		case d.isNode(s):
			return api.ErrSort
		}
		return c.say(editAt(api.Delete, s.place))
	})
}

// Add adds to the counter at a way.
func (d *Draft) Add(steps []api.Step, n int64) api.Errno {
	return d.act(func(c *call) api.Errno {
		s, why := d.lies(steps)
		switch {
		case why != api.OK:
			return why
		case s.kind() != api.Counter:
			return api.ErrSort
		}
		e := editAt(api.Add, s.place)
		e.N = n
		return c.say(e)
	})
}

// Insert puts an element into a sequence, ahead of number at.
func (d *Draft) Insert(steps []api.Step, at int, v api.Value) api.Errno {
	return d.act(func(c *call) api.Errno {
		r, why := d.row(steps, api.List, api.String)
		switch {
		case why != api.OK:
			return why
		case at < 0 || at > len(r.live):
			return api.ErrPlace
		}
		return c.say(api.Edit{Act: api.Insert, Obj: ref(r.obj), At: ref(r.ahead(at)), Value: v})
	})
}

// Type puts a text in the place of count characters.
func (d *Draft) Type(steps []api.Step, at, count int, text string) api.Errno {
	return d.act(func(c *call) api.Errno {
		r, why := d.row(steps, api.String)
		switch {
		case why != api.OK:
			return why
		case at < 0 || count < 0 || at > len(r.live) || count > len(r.live)-at:
			return api.ErrPlace
		case !utf8.ValidString(text):
			return api.ErrValue
		}
		return c.replace(r, at, count, text)
	})
}

// replace puts a valid text in the place of count characters of a String, from number at on.
func (c *call) replace(r row, at, count int, text string) api.Errno {
	for _, id := range r.live[at : at+count] {
		if why := c.say(editAt(api.Delete, api.Place{Obj: r.obj, At: id})); why != api.OK {
			return why
		}
	}
	ahead := r.ahead(at)
	for _, ch := range text {
		v := api.Value{Kind: api.Text, S: string(ch)}
		if why := c.say(api.Edit{Act: api.Insert, Obj: ref(r.obj), At: ref(ahead), Value: v}); why != api.OK {
			return why
		}
		ahead = c.said()
	}
	return api.OK
}

// Rewrite makes a String another one by the fewest characters.
func (d *Draft) Rewrite(steps []api.Step, text string) api.Errno {
	return d.act(func(c *call) api.Errno {
		r, why := d.row(steps, api.String)
		switch {
		case why != api.OK:
			return why
		case !utf8.ValidString(text):
			return api.ErrValue
		}
		for _, p := range Script(d.text(r), text) {
			r.live = d.doc.Live(r.obj)
			if why := c.replace(r, p.At, p.Count, p.Text); why != api.OK {
				return why
			}
		}
		return api.OK
	})
}

// Mark marks the elements of a sequence from one number up to another, that one not.
func (d *Draft) Mark(steps []api.Step, from, to int, name string, v api.Value) api.Errno {
	return d.act(func(c *call) api.Errno {
		r, why := d.row(steps, api.List, api.String)
		switch {
		case why != api.OK:
			return why
		case from < 0 || from >= to || to > len(r.live):
			return api.ErrPlace
		case !words.Key(name):
			return api.ErrField
		}
		return c.say(api.Edit{Act: api.Mark, Obj: ref(r.obj), At: ref(r.live[from]), To: ref(r.live[to-1]), Key: name, Sides: markSides, Value: v})
	})
}
