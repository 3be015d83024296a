package history

import (
	"estuary/api"
	"estuary/dag"
	"estuary/doc"
	"estuary/render"
)

// search is for something at a way, while updates are done one behind the other.
type search struct {
	g    *dag.Graph
	d    *doc.Doc
	way  []api.Step
	made int // at most so many elements, and nodes of outlines, there are by now
}

// ends does an update, and tells whether something lies at the way now.
func (s *search) ends(h api.Hash) bool {
	u, _ := s.g.Update(h)
	for o := range ops(u, h) {
		s.d.Do(o, sight{s.g, o.Id}.has)
		if o.Act == api.Insert || o.Act == api.Grow {
			s.made++
		}
	}
	return s.hopes() && s.found()
}

// hopes tells whether there can be as many elements, or nodes, as the way's steps count. To look for one costs as much as there are of them, behind each update: a far one is not looked for too early.
func (s *search) hopes() bool {
	for _, step := range s.way {
		if step.N >= s.made && step.Kind != api.ByKey {
			return false
		}
	}
	return true
}

func (s *search) found() bool {
	_, why := render.Lies(s.d, s.way)
	return why == api.OK
}
