package render

import (
	"strings"

	"estuary/api"
	"estuary/doc"
	"estuary/value"
)

const noStep api.StepKind = 0

// How the texts of nodes begin and end.
const (
	mapBegin     = "{"
	mapEnd       = "}"
	listBegin    = "["
	listEnd      = "]"
	outlineBegin = "<"
	outlineEnd   = ">"
	singleQuote  = "'"
	escapedQuote = `\'`
)

// shape is what those of one sort know of themselves: how they are printed, and what can lie in them.
type shape interface {
	opens(n api.Node, kids int) string     // what of its text stands ahead of the texts of those that lie in it
	closes(kids int) string                // and what behind them
	leads() api.StepKind                   // the steps to the nodes that lie in it
	places(d *doc.Doc, s spot) []api.Place // its places in a document at which something is shown
}

type (
	scalar     struct{} // in which nothing lies
	mapping    struct{}
	list       struct{}
	characters struct{ list } // a String: one node, though it has places as a List has
	outline    struct{}
	twig       struct{ outline } // a node of an outline: a scalar in which others lie as in the outline itself
)

// shapeOf is that of a value of a kind that lies in no outline.
func shapeOf(k api.Kind) shape {
	switch k {
	case api.Map:
		return mapping{}
	case api.List:
		return list{}
	case api.String:
		return characters{}
	case api.Outline:
		return outline{}
	}
	return scalar{}
}

// shapeIn is that of a value of a kind that lies in another one.
func shapeIn(in shape, k api.Kind) shape {
	if in.leads() == api.ByChild {
		return twig{}
	}
	return shapeOf(k)
}

// shapeOfFirst is that of the first node of a part: a scalar there could be an outline's node.
func shapeOfFirst(k api.Kind) shape {
	if value.Scalar(k) {
		return twig{}
	}
	return shapeOf(k)
}

func (scalar) opens(n api.Node, _ int) string    { return value.Print(n.Value) }
func (scalar) closes(int) string                 { return "" }
func (scalar) leads() api.StepKind               { return noStep }
func (scalar) places(*doc.Doc, spot) []api.Place { return nil }

func (mapping) opens(api.Node, int) string { return mapBegin }
func (mapping) closes(int) string          { return mapEnd }
func (mapping) leads() api.StepKind        { return api.ByKey }

func (mapping) places(d *doc.Doc, s spot) []api.Place {
	var l []api.Place
	for _, key := range d.Keys(s.top.Id) {
		l = append(l, api.Place{Obj: s.top.Id, Key: key})
	}
	return l
}

func (list) opens(api.Node, int) string { return listBegin }
func (list) closes(int) string          { return listEnd }
func (list) leads() api.StepKind        { return api.ByIndex }

func (list) places(d *doc.Doc, s spot) []api.Place {
	return placesAt(s.top.Id, d.Live(s.top.Id))
}

func (characters) opens(n api.Node, _ int) string { return quoteSingle(n.Text) }
func (characters) closes(int) string              { return "" }
func (characters) leads() api.StepKind            { return noStep }

func (outline) opens(api.Node, int) string { return outlineBegin }
func (outline) closes(int) string          { return outlineEnd }
func (outline) leads() api.StepKind        { return api.ByChild }

func (outline) places(d *doc.Doc, s spot) []api.Place {
	return placesAt(s.top.Id, d.Kids(s.top.Id, api.Id{}))
}

func (twig) opens(n api.Node, kids int) string {
	if kids == 0 {
		return value.Print(n.Value)
	}
	return value.Print(n.Value) + outlineBegin
}

func (twig) closes(kids int) string {
	if kids == 0 {
		return ""
	}
	return outlineEnd
}

func (twig) places(d *doc.Doc, s spot) []api.Place {
	return placesAt(s.place.Obj, d.Kids(s.place.Obj, s.place.At))
}

func placesAt(obj api.Id, ids []api.Id) []api.Place {
	l := make([]api.Place, len(ids))
	for i, id := range ids {
		l[i] = api.Place{Obj: obj, At: id}
	}
	return l
}

// quoteSingle is as value.Quote, but that single and double quotes change their parts. What stands between double ones value.Quote writes as it is asked for.
func quoteSingle(s string) string {
	pieces := strings.Split(s, `"`)
	for i, piece := range pieces {
		q := value.Quote(piece)
		pieces[i] = q[1 : len(q)-1]
	}
	return singleQuote + strings.ReplaceAll(strings.Join(pieces, `"`), singleQuote, escapedQuote) + singleQuote
}
