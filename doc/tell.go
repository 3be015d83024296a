package doc

import "estuary/api"

// Kind is an object's kind (Null: there is none).
func (d *Doc) Kind(obj api.Id) api.Kind {
	if !d.isObject(obj) {
		return api.Null
	}
	return d.find(obj).kind()
}

// Deep is in how many objects one lies.
func (d *Doc) Deep(obj api.Id) int {
	if !d.isObject(obj) {
		return -1
	}
	return d.objects[obj].deep
}

// Objects is how many there are, the root too.
func (d *Doc) Objects() int {
	if d == nil {
		return 0
	}
	return len(d.objects)
}

// Keys are a map's, rising.
func (d *Doc) Keys(obj api.Id) []string {
	if d.Kind(obj) != api.Map {
		return nil
	}
	return d.regs.Keys(obj)
}

// Live are a sequence's elements that are shown.
func (d *Doc) Live(obj api.Id) []api.Id {
	return d.sequence(obj).elements.Live()
}

// Kids are the nodes under one of an outline (of the zero Id: at its top).
func (d *Doc) Kids(obj api.Id, node api.Id) []api.Id {
	return d.nodes(obj).Kids(node)
}

// Position is that of an outline's node.
func (d *Doc) Position(obj api.Id, node api.Id) string {
	_, key, _ := d.nodes(obj).Under(node)
	return key
}

// Entries are what lies at a place. (Nothing ever lies where no place is.)
func (d *Doc) Entries(p api.Place) []api.Entry {
	if d == nil {
		return nil
	}
	return d.regs.Entries(p)
}

// Top is the last of what lies at a place.
func (d *Doc) Top(p api.Place) (api.Entry, bool) {
	if d == nil {
		return api.Entry{}, false
	}
	return d.regs.Top(p)
}

// Spans are a sequence's marks.
func (d *Doc) Spans(obj api.Id) []api.Span {
	s := d.sequence(obj)
	return s.marks.Spans(s.elements)
}
