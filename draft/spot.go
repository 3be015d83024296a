package draft

import (
	"slices"
	"strings"

	"estuary/api"
	"estuary/render"
	"estuary/way"
)

// spot is what is shown at a way.
type spot struct {
	place api.Place // of the root none
	top   api.Entry
}

func (s spot) kind() api.Kind { return s.top.Value.Kind }

// lies is what render.Lies finds: into Strings a way leads here, but to the root none does.
func (d *Draft) lies(steps []api.Step) (spot, api.Errno) {
	p, why := render.Lies(d.doc, steps)
	top, _ := d.doc.Top(p)
	return spot{place: p, top: top}, why
}

// find is what render.Find finds in the document's nodes, without making all of these.
func (d *Draft) find(steps []api.Step) (spot, api.Errno) {
	if why := way.Right(steps); why != api.OK {
		return spot{}, why
	}
	if len(steps) == 0 {
		return spot{top: api.Entry{Value: api.Value{Kind: api.Map}}}, api.OK
	}
	if outer, _ := d.lies(way.Up(steps)); outer.kind() == api.String {
		return spot{}, api.ErrSort
	}
	return d.lies(steps)
}

// isNode tells whether a spot is an outline's node.
func (d *Draft) isNode(s spot) bool {
	return d.doc.Kind(s.place.Obj) == api.Outline
}

// branch is an outline, and that of its nodes which a spot is; none of them, if it is the outline itself.
func (d *Draft) branch(s spot) (api.Place, bool) {
	switch {
	case d.isNode(s):
		return s.place, true
	case s.kind() == api.Outline:
		return api.Place{Obj: s.top.Id}, true
	}
	return api.Place{}, false
}

// row is a sequence's shown elements.
type row struct {
	obj  api.Id
	live []api.Id
}

// row finds a sequence of one of some kinds.
func (d *Draft) row(steps []api.Step, kinds ...api.Kind) (row, api.Errno) {
	s, why := d.find(steps)
	switch {
	case why != api.OK:
		return row{}, why
	case !slices.Contains(kinds, s.kind()):
		return row{}, api.ErrSort
	}
	return row{obj: s.top.Id, live: d.doc.Live(s.top.Id)}, api.OK
}

// ahead is the element that stands ahead of number at; the zero Id, if that is the front.
func (r row) ahead(at int) api.Id {
	if at == 0 {
		return api.Id{}
	}
	return r.live[at-1]
}

// text is what is shown in a String.
func (d *Draft) text(r row) string {
	var b strings.Builder
	for _, id := range r.live {
		e, _ := d.doc.Top(api.Place{Obj: r.obj, At: id})
		b.WriteString(e.Value.S)
	}
	return b.String()
}
