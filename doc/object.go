package doc

import (
	"unicode/utf8"

	"estuary/api"
	"estuary/marks"
	"estuary/seq"
	"estuary/tree"
	"estuary/value"
	"estuary/words"
)

// object is what those of each kind know of themselves. What lies at their places the document keeps.
type object interface {
	kind() api.Kind
	fork() object
	has(key string, at api.Id) bool // is that a place of it?
	takes(v api.Value) bool         // may this right value lie in it?
	show(at api.Id, shown bool)     // something lies at its place now, or nothing
}

type mapping struct{}

// sequence is what Lists and Strings have in common.
type sequence struct {
	elements *seq.Seq
	marks    *marks.Marks
}

type list struct{ sequence }

type characters struct{ sequence }

type outline struct{ nodes *tree.Tree }

// newObject is an empty one of a kind; nil, if that is no object's.
func newObject(k api.Kind) object {
	switch k {
	case api.Map:
		return &mapping{}
	case api.List:
		return &list{newSequence()}
	case api.String:
		return &characters{newSequence()}
	case api.Outline:
		return &outline{tree.New()}
	}
	return nil
}

func newSequence() sequence {
	return sequence{elements: seq.New(), marks: marks.New()}
}

func (m *mapping) kind() api.Kind    { return api.Map }
func (l *list) kind() api.Kind       { return api.List }
func (c *characters) kind() api.Kind { return api.String }
func (o *outline) kind() api.Kind    { return api.Outline }

func (m *mapping) fork() object    { return m }
func (l *list) fork() object       { return &list{l.copied()} }
func (c *characters) fork() object { return &characters{c.copied()} }
func (o *outline) fork() object    { return &outline{o.nodes.Fork()} }

func (s *sequence) copied() sequence {
	return sequence{elements: s.elements.Fork(), marks: s.marks.Fork()}
}

func (m *mapping) has(key string, at api.Id) bool {
	return words.Key(key) && at == api.Id{}
}

func (s *sequence) has(key string, at api.Id) bool {
	return key == "" && s.elements.Has(at)
}

// A pruned node is a place, too: it is under nothing, and so 0 deep.
func (o *outline) has(key string, at api.Id) bool {
	_, _, under := o.nodes.Under(at)
	return key == "" && (under || o.nodes.Deep(at) == 0)
}

func (m *mapping) takes(api.Value) bool { return true }

func (l *list) takes(api.Value) bool { return true }

func (c *characters) takes(v api.Value) bool {
	return v.Kind == api.Text && utf8.RuneCountInString(v.S) == 1
}

func (o *outline) takes(v api.Value) bool {
	return value.Scalar(v.Kind)
}

func (m *mapping) show(api.Id, bool) {}

func (s *sequence) show(at api.Id, shown bool) { s.elements.Show(at, shown) }

func (o *outline) show(api.Id, bool) {}

// fits tells whether a value may lie in an object.
func (h held) fits(v api.Value) bool {
	return value.Right(v) == api.OK && h.takes(v) && (value.Scalar(v.Kind) || h.deep < api.MaxNest)
}

// reaches tells whether something may begin, or end, there: at an element, or at the front, or the end.
func (s sequence) reaches(id api.Id) bool {
	return id == api.Id{} || s.elements.Has(id)
}

// find is an object's own part; nil, if there is no such object.
func (d *Doc) find(obj api.Id) object {
	if d == nil {
		return nil
	}
	return d.objects[obj].object
}

func (d *Doc) isObject(obj api.Id) bool {
	return d.find(obj) != nil
}

// sequence is what a List, or a String, is made of. Of others it has nil parts, which refuse all that is to be done, and have nothing to tell.
func (d *Doc) sequence(obj api.Id) sequence {
	switch x := d.find(obj).(type) {
	case *list:
		return x.sequence
	case *characters:
		return x.sequence
	}
	return sequence{}
}

// nodes are those of an Outline. Of others they are nil, and so refuse all and tell nothing.
func (d *Doc) nodes(obj api.Id) *tree.Tree {
	switch x := d.find(obj).(type) {
	case *outline:
		return x.nodes
	}
	return nil
}
