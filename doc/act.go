package doc

import (
	"estuary/api"
	"estuary/edit"
	"estuary/regs"
	"estuary/tree"
	"estuary/words"
)

// act does an op on an object that there is. If the op is passed over, nothing is kept to be brought back.
func (d *Doc) act(b *Back, o api.Op, seen func(api.Id) bool) {
	switch o.Act {
	case api.Put:
		d.put(b, o, seen)
	case api.Delete:
		d.delete(b, o, seen)
	case api.Add:
		d.add(b, o, seen)
	case api.Insert:
		d.insert(b, o)
	case api.Mark:
		d.mark(b, o)
	case api.Grow:
		d.grow(b, o)
	case api.Move:
		d.move(b, o)
	case api.Prune:
		d.prune(b, o)
	}
}

func (d *Doc) put(b *Back, o api.Op, seen func(api.Id) bool) {
	x := d.objects[o.Obj]
	if x.has(o.Key, o.At) && x.fits(o.Value) {
		d.lay(b, o, seen)
	}
}

func (d *Doc) delete(b *Back, o api.Op, seen func(api.Id) bool) {
	x, p := d.objects[o.Obj], edit.Place(o)
	if x.kind() != api.Outline && x.has(o.Key, o.At) {
		d.wrote(b, p, d.regs.Delete(p, seen))
	}
}

func (d *Doc) add(b *Back, o api.Op, seen func(api.Id) bool) {
	x, p := d.objects[o.Obj], edit.Place(o)
	if x.has(o.Key, o.At) {
		d.wrote(b, p, d.regs.Add(p, o.N, seen))
	}
}

func (d *Doc) insert(b *Back, o api.Op) {
	if o.Key != "" || !d.objects[o.Obj].fits(o.Value) || d.sequence(o.Obj).elements.Insert(o.Id, o.At) != api.OK {
		return
	}
	obj, id := o.Obj, o.Id
	b.changed(func(d *Doc) { d.sequence(obj).elements.Take(id) })
	d.lay(b, o, nil)
}

func (d *Doc) mark(b *Back, o api.Op) {
	s := d.sequence(o.Obj)
	if !s.reaches(o.At) || !s.reaches(o.To) || s.marks.Add(o.Id, o.Key, o.Value, o.At, o.To, o.Sides) != api.OK {
		return
	}
	obj, id := o.Obj, o.Id
	b.changed(func(d *Doc) { d.sequence(obj).marks.Undo(id) })
}

func (d *Doc) grow(b *Back, o api.Op) {
	if !words.Key(o.Key) || !d.objects[o.Obj].fits(o.Value) {
		return
	}
	if step, why := d.nodes(o.Obj).Grow(o.Id, o.At, o.Key); why == api.OK {
		moved(b, o.Obj, step)
		d.lay(b, o, nil)
	}
}

func (d *Doc) move(b *Back, o api.Op) {
	if !words.Key(o.Key) {
		return
	}
	if step, why := d.nodes(o.Obj).Move(o.At, o.To, o.Key); why == api.OK {
		moved(b, o.Obj, step)
	}
}

func (d *Doc) prune(b *Back, o api.Op) {
	if step, why := d.nodes(o.Obj).Prune(o.At); why == api.OK {
		moved(b, o.Obj, step)
	}
}

// moved keeps a step of an Outline's nodes.
func moved(b *Back, obj api.Id, step *tree.Back) {
	b.changed(func(d *Doc) { d.nodes(obj).Undo(step) })
}

// lay lays an op's value at its place, and makes the object that it stands for.
func (d *Doc) lay(b *Back, o api.Op, seen func(api.Id) bool) {
	p := edit.Place(o)
	d.wrote(b, p, d.regs.Put(p, o.Id, o.Value, seen))
	if x := newObject(o.Value.Kind); x != nil {
		d.hold(b, o.Id, held{object: x, deep: d.objects[o.Obj].deep + 1})
	}
}

func (d *Doc) hold(b *Back, id api.Id, x held) {
	d.objects[id] = x
	b.changed(func(d *Doc) { delete(d.objects, id) })
}

// wrote keeps a step at a place, and lets the place be seen, or not, by what lies there.
func (d *Doc) wrote(b *Back, p api.Place, step *regs.Back) {
	d.show(p)
	b.changed(func(d *Doc) {
		d.regs.Undo(step)
		d.show(p)
	})
}

func (d *Doc) show(p api.Place) {
	_, lies := d.regs.Top(p)
	d.objects[p.Obj].show(p.At, lies)
}
