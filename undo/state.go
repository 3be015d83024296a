package undo

import (
	"estuary/api"
	"estuary/dag"
	"estuary/doc"
	"estuary/edit"
)

// state is a document, with where the nodes of its outlines stand: of what a node is under a document tells nothing.
type state struct {
	doc   *doc.Doc
	posts map[api.Place]post
}

// post is what a node is under, and its position. A node that is pruned itself has none, nor one that there is not.
type post struct {
	under api.Id
	key   string
}

// stateAt is the document of some updates and their ancestors.
func stateAt(g *dag.Graph, heads []api.Hash) *state {
	s := &state{doc: doc.New(), posts: map[api.Place]post{}}
	for _, h := range g.Past(heads) {
		for _, o := range ops(g, h) {
			if does(s.doc, g, o) {
				s.note(o)
			}
		}
	}
	return s
}

// does does an op of a graph's update on a document; false, if it was passed over.
func does(d *doc.Doc, g *dag.Graph, o api.Op) bool {
	return d.Do(o, func(id api.Id) bool {
		if id.Hash == o.Id.Hash {
			return id.N < o.Id.N
		}
		return g.Before(id.Hash, o.Id.Hash)
	}).Did()
}

// note keeps where a node stands behind an op that was done.
func (s *state) note(o api.Op) {
	switch o.Act {
	case api.Grow:
		s.posts[target(o)] = post{o.At, o.Key}
	case api.Move:
		s.posts[target(o)] = post{o.To, o.Key}
	case api.Prune:
		s.posts[target(o)] = post{}
	}
}

// liesIn tells whether a node of an outline is another one, or lies under it.
func (s *state) liesIn(obj, id, other api.Id) bool {
	for id != (api.Id{}) && id != other {
		id = s.posts[api.Place{Obj: obj, At: id}].under
	}
	return id == other
}

// ops are an update's. Its id is at hand here, so that its bytes need not be made again for it.
func ops(g *dag.Graph, h api.Hash) []api.Op {
	u, _ := g.Update(h)
	l := make([]api.Op, len(u.Edits))
	for i, e := range u.Edits {
		l[i] = edit.Op(e, h, i+1, u.Author)
	}
	return l
}

// target is the place on which an op acts, as history.Story has it; of a node that is moved or pruned edit.Place tells nothing.
func target(o api.Op) api.Place {
	if o.Act == api.Move || o.Act == api.Prune {
		return api.Place{Obj: o.Obj, At: o.At}
	}
	return edit.Place(o)
}
