package draft

import (
	"estuary/api"
	"estuary/way"
	"estuary/words"
)

// Grow makes a node of an outline, at a position.
func (d *Draft) Grow(steps []api.Step, key string, v api.Value) api.Errno {
	return d.act(func(c *call) api.Errno {
		s, why := d.find(steps)
		if why != api.OK {
			return why
		}
		under, ok := d.branch(s)
		switch {
		case !ok:
			return api.ErrSort
		case !words.Key(key):
			return api.ErrField
		}
		return c.say(api.Edit{Act: api.Grow, Obj: ref(under.Obj), At: ref(under.At), Key: key, Value: v})
	})
}

// Move moves a node under another one of its outline, or to the top, at a position.
func (d *Draft) Move(steps, to []api.Step, key string) api.Errno {
	return d.act(func(c *call) api.Errno {
		from, why := d.find(steps)
		if why != api.OK {
			return why
		}
		s, why := d.find(to)
		if why != api.OK {
			return why
		}
		under, ok := d.branch(s)
		switch {
		case !ok || under.Obj != from.place.Obj: // what lies in an outline is a node of it
			return api.ErrSort
		case way.Starts(to, steps): // each node has one way, and what lies under it begins with that
			return api.ErrRing
		case !words.Key(key):
			return api.ErrField
		}
		e := editAt(api.Move, from.place)
		e.To, e.Key = ref(under.At), key
		return c.say(e)
	})
}

// Prune takes a node out of its outline.
func (d *Draft) Prune(steps []api.Step) api.Errno {
	return d.act(func(c *call) api.Errno {
		s, why := d.find(steps)
		switch {
		case why != api.OK:
			return why
		case !d.isNode(s):
			return api.ErrSort
		}
		return c.say(editAt(api.Prune, s.place))
	})
}
