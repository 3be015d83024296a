package doc

import (
	"bytes"
	"math"
	"slices"
	"strings"
	"unicode/utf8"

	"estuary/api"
	"estuary/marks"
	"estuary/seq"
)

// model is a document by the words of DOC.md ('What ops do'), slowly. An op is undone by doing all others anew.
type model struct {
	objects map[api.Id]*thing
	done    map[api.Id]bool
}

// thing is an object.
type thing struct {
	kind     api.Kind
	deep     int
	places   map[api.Place][]api.Entry
	elements []api.Id
	marks    []api.Op
	nodes    map[api.Id]*node
}

type node struct {
	under  api.Id
	key    string
	pruned bool
}

func newModel() *model {
	return &model{objects: map[api.Id]*thing{{}: newThing(api.Map, 0)}, done: map[api.Id]bool{}}
}

func newThing(k api.Kind, deep int) *thing {
	return &thing{kind: k, deep: deep, places: map[api.Place][]api.Entry{}, nodes: map[api.Id]*node{}}
}

func isKey(s string) bool {
	ok := len(s) >= 1 && len(s) <= 64 && utf8.ValidString(s)
	for _, c := range []byte(s) {
		ok = ok && c >= 32 && c != 127
	}
	return ok
}

func isObjects(k api.Kind) bool { return k >= api.Map && k <= api.Outline }

func isRight(v api.Value) bool {
	rest := v
	switch rest.Kind = 0; v.Kind {
	case api.Int, api.Counter:
		rest.N = 0
	case api.Bool:
		if rest.N == 1 {
			rest.N = 0
		}
	case api.Time:
		if rest.N >= 0 && rest.N <= 1<<53 {
			rest.N = 0
		}
	case api.Float:
		if !math.IsNaN(v.F) && !math.IsInf(v.F, 0) && math.Float64bits(v.F) != 1<<63 {
			rest.F = 0
		}
	case api.Text:
		if utf8.ValidString(v.S) && len(v.S) <= 1000 {
			rest.S = ""
		}
	case api.Bytes:
		if len(v.S) <= 1000 {
			rest.S = ""
		}
	}
	return v.Kind <= api.Outline && rest == api.Value{} && math.Float64bits(rest.F) == 0
}

func (x *thing) isSequence() bool { return x.kind == api.List || x.kind == api.String }

func (x *thing) fits(v api.Value) bool {
	switch {
	case !isRight(v):
		return false
	case x.kind == api.String:
		return v.Kind == api.Text && len([]rune(v.S)) == 1
	case x.kind == api.Outline:
		return !isObjects(v.Kind)
	}
	return !isObjects(v.Kind) || x.deep < 32
}

func (x *thing) isPlace(key string, at api.Id) bool {
	switch {
	case x.kind == api.Map:
		return isKey(key) && at == api.Id{}
	case x.isSequence():
		return key == "" && slices.Contains(x.elements, at)
	}
	return key == "" && x.nodes[at] != nil
}

func (x *thing) isEnd(at api.Id) bool {
	return at == api.Id{} || slices.Contains(x.elements, at)
}

func (x *thing) isUnder(at api.Id) bool {
	return at == api.Id{} || x.nodes[at] != nil
}

func (x *thing) liesUnder(at, under api.Id) bool {
	n := x.nodes[at]
	return n != nil && !n.pruned && (n.under == under || x.liesUnder(n.under, under))
}

// do does an op, and tells whether it was done.
func (m *model) do(o api.Op, seen func(api.Id) bool) bool {
	x := m.objects[o.Obj]
	if o.Id.N <= 0 || m.done[o.Id] || x == nil || !m.can(x, o) {
		return false
	}
	m.done[o.Id] = true
	p := api.Place{Obj: o.Obj, Key: o.Key, At: o.At}
	saw := func(e api.Entry) bool { return seen != nil && seen(e.Id) }
	switch o.Act {
	case api.Delete:
		x.places[p] = slices.DeleteFunc(x.places[p], saw)
	case api.Add:
		for i, e := range x.places[p] {
			if e.Value.Kind == api.Counter && saw(e) {
				x.places[p][i].Value.N += o.N
			}
		}
	case api.Put:
		x.places[p] = slices.DeleteFunc(x.places[p], saw)
		m.lay(x, p, o)
	case api.Insert:
		x.elements = slices.Insert(x.elements, 1+slices.Index(x.elements, o.At), o.Id)
		m.lay(x, api.Place{Obj: o.Obj, At: o.Id}, o)
	case api.Mark:
		x.marks = append(x.marks, o)
	case api.Grow:
		x.nodes[o.Id] = &node{under: o.At, key: o.Key}
		m.lay(x, api.Place{Obj: o.Obj, At: o.Id}, o)
	case api.Move:
		*x.nodes[o.At] = node{under: o.To, key: o.Key}
	case api.Prune:
		*x.nodes[o.At] = node{pruned: true}
	}
	return true
}

func (m *model) lay(x *thing, p api.Place, o api.Op) {
	x.places[p] = append(x.places[p], api.Entry{Id: o.Id, Value: o.Value})
	if isObjects(o.Value.Kind) {
		m.objects[o.Id] = newThing(o.Value.Kind, x.deep+1)
	}
}

// can is what the table asks for.
func (m *model) can(x *thing, o api.Op) bool {
	switch o.Act {
	case api.Put:
		return x.isPlace(o.Key, o.At) && x.fits(o.Value)
	case api.Delete:
		return x.isPlace(o.Key, o.At) && x.kind != api.Outline
	case api.Add:
		return x.isPlace(o.Key, o.At)
	case api.Insert:
		return x.isSequence() && o.Key == "" && x.isEnd(o.At) && x.fits(o.Value)
	case api.Mark:
		return x.isSequence() && isKey(o.Key) && x.isEnd(o.At) && x.isEnd(o.To) && o.Sides >= 0 && o.Sides <= 3 && isRight(o.Value) && !isObjects(o.Value.Kind)
	case api.Grow:
		return x.kind == api.Outline && isKey(o.Key) && x.isUnder(o.At) && x.fits(o.Value)
	case api.Move:
		return x.kind == api.Outline && isKey(o.Key) && x.nodes[o.At] != nil && x.isUnder(o.To) && o.To != o.At && !x.liesUnder(o.To, o.At)
	case api.Prune:
		return x.kind == api.Outline && x.nodes[o.At] != nil && !x.nodes[o.At].pruned
	}
	return false
}

// told is all that is told of one object.
type told struct {
	Kind      api.Kind
	Deep      int
	Keys      []string
	Live      []api.Id
	Kids      map[api.Id][]api.Id
	Positions map[api.Id]string
	Entries   map[api.Place][]api.Entry
	Spans     []api.Span
}

// list0 is a list, or nil if there is nothing in it: nobody is to tell these apart.
func list0[T any](l []T) []T {
	if len(l) == 0 {
		return nil
	}
	return l
}

func (m *model) tell(obj api.Id) told {
	w := told{Deep: -1, Kids: map[api.Id][]api.Id{}, Positions: map[api.Id]string{}, Entries: map[api.Place][]api.Entry{}}
	x := m.objects[obj]
	if x == nil {
		return w
	}
	w.Kind, w.Deep = x.kind, x.deep
	for p, l := range x.places {
		if len(l) == 0 {
			continue
		}
		w.Entries[p] = slices.Clone(l)
		if x.kind == api.Map {
			w.Keys = append(w.Keys, p.Key)
		}
	}
	slices.Sort(w.Keys)
	s, k := seq.New(), marks.New() // what marks tell is their own chapter's
	last := api.Id{}
	for _, e := range x.elements {
		shown := len(x.places[api.Place{Obj: obj, At: e}]) > 0
		if shown {
			w.Live = append(w.Live, e)
		}
		s.Insert(e, last)
		s.Show(e, shown)
		last = e
	}
	for _, o := range x.marks {
		k.Add(o.Id, o.Key, o.Value, o.At, o.To, o.Sides)
	}
	w.Spans = list0(k.Spans(s))
	for n, at := range x.nodes {
		if at.pruned {
			continue
		}
		w.Positions[n] = at.key
		w.Kids[at.under] = append(w.Kids[at.under], n)
	}
	for _, l := range w.Kids {
		slices.SortFunc(l, func(a, b api.Id) int {
			if c := strings.Compare(x.nodes[a].key, x.nodes[b].key); c != 0 {
				return c
			}
			if c := bytes.Compare(a.Hash[:], b.Hash[:]); c != 0 {
				return c
			}
			return a.N - b.N
		})
	}
	return w
}

// tell is all that a document tells of one object, asked by these Ids and keys.
func tell(d *Doc, obj api.Id, ids []api.Id) told {
	w := told{Kind: d.Kind(obj), Deep: d.Deep(obj), Keys: list0(d.Keys(obj)), Live: list0(d.Live(obj)), Spans: list0(d.Spans(obj)), Kids: map[api.Id][]api.Id{}, Positions: map[api.Id]string{}, Entries: map[api.Place][]api.Entry{}}
	for _, at := range ids {
		if l := d.Kids(obj, at); len(l) > 0 {
			w.Kids[at] = l
		}
		if s := d.Position(obj, at); s != "" {
			w.Positions[at] = s
		}
		keys := []string{"", "a"}
		if at == (api.Id{}) {
			keys = append(d.Keys(obj), "", "a", "k", "zz")
		}
		for _, key := range keys {
			p := api.Place{Obj: obj, Key: key, At: at}
			l := d.Entries(p)
			top, ok := d.Top(p)
			if ok != (len(l) > 0) || ok && top != l[len(l)-1] || !ok && top != (api.Entry{}) {
				panic("Top and Entries")
			}
			if ok {
				w.Entries[p] = l
			}
		}
	}
	return w
}
