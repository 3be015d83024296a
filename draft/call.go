package draft

import (
	"slices"

	"estuary/api"
	"estuary/doc"
	"estuary/edit"
)

// own is the hash by which a draft names its own edits.
var own = api.Hash{}

const markSides = 2 // from ahead of the first element to behind the last one

// call is one call of a draft, and how what it has made so far is undone.
type call struct {
	of    *Draft
	backs []*doc.Back
}

// act makes the edits of one call: all of them, or, with an error, none.
func (d *Draft) act(edits func(c *call) api.Errno) (why api.Errno) {
	if d == nil {
		return api.ErrNil
	}
	c := &call{of: d}
	defer func() {
		if why != api.OK {
			c.takeBack()
		}
	}()
	return edits(c)
}

// say makes an edit, and does it. Behind what its call has looked at only its value can hinder it, and then the room.
func (c *call) say(e api.Edit) api.Errno {
	d := c.of
	d.edits = append(d.edits, e)
	b := d.doc.Do(edit.Op(e, own, len(d.edits), d.over.Author), all)
	c.backs = append(c.backs, b)
	switch {
	case !b.Did():
		return api.ErrValue
	case len(d.edits) > api.MaxEdits:
		return api.ErrFull
	}
	return api.OK
}

// said names the edit that was made last.
func (c *call) said() api.Id {
	return api.Id{Hash: own, N: len(c.of.edits)}
}

func (c *call) takeBack() {
	d := c.of
	for _, b := range slices.Backward(c.backs) {
		d.doc.Undo(b)
	}
	d.edits = d.edits[:len(d.edits)-len(c.backs)]
}

// all is what an edit of a draft had seen.
func all(api.Id) bool { return true }

// ref is how a draft's edit names something.
func ref(id api.Id) api.Ref {
	return edit.Ref(id, own)
}

// editAt is an edit that acts on what lies at a place.
func editAt(a api.Act, p api.Place) api.Edit {
	return api.Edit{Act: a, Obj: ref(p.Obj), At: ref(p.At), Key: p.Key}
}
