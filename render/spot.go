package render

import (
	"iter"
	"slices"
	"strings"

	"estuary/api"
	"estuary/doc"
	"estuary/way"
)

// spot is what is shown at a place of a document, or its root.
type spot struct {
	shape
	place api.Place
	top   api.Entry
	step  api.Step // the last one of the way to it
	deep  int
}

func root() spot {
	return spot{shape: mapping{}, top: api.Entry{Value: api.Value{Kind: api.Map}}}
}

// inner is what is shown at the place number n of a spot.
func (s spot) inner(d *doc.Doc, n int, p api.Place) spot {
	top, _ := d.Top(p)
	return spot{shape: shapeIn(s.shape, top.Value.Kind), place: p, top: top, step: s.stepTo(n, p), deep: s.deep + 1}
}

// stepTo is the step from a spot to its place number n.
func (s spot) stepTo(n int, p api.Place) api.Step {
	switch s.leads() {
	case api.ByKey:
		return api.Step{Kind: api.ByKey, Key: p.Key}
	case api.ByChild:
		return api.Step{Kind: api.ByChild, N: n}
	}
	return api.Step{Kind: api.ByIndex, N: n}
}

// frame is a spot of whose places the first ones were gone to.
type frame struct {
	spot
	all  []api.Place
	gone int
}

// walk goes through the spots of a document, each ahead of what lies in it; into those alone that may be gone into.
func walk(d *doc.Doc, into func(spot) bool) iter.Seq[spot] {
	return func(yield func(spot) bool) {
		var open []frame // no spot goes into the next by itself: outlines may be very deep
		visit := func(s spot) bool {
			if into(s) {
				open = append(open, frame{spot: s, all: s.places(d, s)})
			}
			return yield(s)
		}
		for more := visit(root()); more && len(open) > 0; {
			f := &open[len(open)-1]
			if f.gone == len(f.all) {
				open = open[:len(open)-1]
				continue
			}
			f.gone++
			more = visit(f.inner(d, f.gone-1, f.all[f.gone-1]))
		}
	}
}

// hasNodes tells whether what lies in a spot are nodes.
func (s spot) hasNodes() bool {
	return s.leads() != noStep
}

// canGoOn tells whether a way to a spot may have one more step.
func (s spot) canGoOn() bool {
	return s.deep < api.MaxSteps
}

// node is a spot as it is shown.
func (s spot) node(d *doc.Doc) api.Node {
	n := api.Node{Deep: s.deep, Key: s.key(d), Id: s.top.Id, Value: s.top.Value, Spans: d.Spans(s.top.Id)}
	n.More = max(len(d.Entries(s.place))-1, 0)
	if n.Value.Kind == api.String {
		n.Text = s.text(d)
	}
	return n
}

// key is a spot's key, or its position in an outline.
func (s spot) key(d *doc.Doc) string {
	if s.step.Kind == api.ByChild {
		return d.Position(s.place.Obj, s.place.At)
	}
	return s.step.Key
}

// text is what is shown in a String.
func (s spot) text(d *doc.Doc) string {
	var b strings.Builder
	for _, p := range s.places(d, s) {
		e, _ := d.Top(p)
		b.WriteString(e.Value.S)
	}
	return b.String()
}

// Lies is the place of what lies at a way.
func Lies(d *doc.Doc, steps []api.Step) (api.Place, api.Errno) {
	if why := way.Right(steps); why != api.OK {
		return api.Place{}, why
	}
	if len(steps) == 0 {
		return api.Place{}, api.ErrSort
	}
	s := root()
	for i, step := range steps {
		if !s.takes(step, i == len(steps)-1) {
			return api.Place{}, api.ErrSort
		}
		next, ok := s.next(d, step)
		if !ok {
			return api.Place{}, api.ErrAbsent
		}
		s = next
	}
	return s.place, api.OK
}

// takes tells whether such a step leads from a spot. Into a String, which is one node, only the last one of a way does.
func (s spot) takes(step api.Step, last bool) bool {
	return step.Kind == s.leads() || last && step.Kind == api.ByIndex && s.top.Value.Kind == api.String
}

// next is the spot to which a step leads from another one. A key is asked for by itself, however many there are.
func (s spot) next(d *doc.Doc, step api.Step) (spot, bool) {
	if step.Kind == api.ByKey {
		p := api.Place{Obj: s.top.Id, Key: step.Key}
		_, lies := d.Top(p)
		return s.inner(d, 0, p), lies
	}
	for n, p := range s.places(d, s) {
		if s.stepTo(n, p) == step {
			return s.inner(d, n, p), true
		}
	}
	return spot{}, false
}

// Others are all values that lie at a way.
func Others(d *doc.Doc, steps []api.Step) ([]api.Entry, api.Errno) {
	p, why := Lies(d, steps)
	if why != api.OK {
		return nil, why
	}
	return d.Entries(p), api.OK
}

// Where is the way to what an op put there.
func Where(d *doc.Doc, id api.Id) ([]api.Step, bool) {
	if id.N < 1 {
		return nil, false // no op; the root is shown by none
	}
	var steps []api.Step // from the root's own, which is none, on
	for s := range walk(d, spot.canGoOn) {
		steps = append(steps[:s.deep], s.step)
		if s.top.Id == id {
			return slices.Clone(steps[1:]), true
		}
	}
	return nil, false
}
