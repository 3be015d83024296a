package draft

import (
	"math/rand"
	"slices"
	"strings"
	"testing"
	"unicode/utf8"

	"estuary/api"
	"estuary/digest"
	"estuary/doc"
	"estuary/edit"
	"estuary/history"
	"estuary/render"
	"estuary/update"
	"estuary/value"
	"estuary/words"
)

// model is a draft by the chapter's words: each call looks at the nodes of the whole document.
type model struct {
	doc   *doc.Doc
	edits []api.Edit
}

// at is the node at a way, and the numbers of it and of the first one behind it that does not lie in it.
func (m *model) at(steps []api.Step) (n api.Node, from, to int, why api.Errno) {
	l := render.Nodes(m.doc)
	if from, why = render.Find(l, steps); why != api.OK {
		return api.Node{}, 0, 0, why
	}
	for to = from + 1; to < len(l) && l[to].Deep > l[from].Deep; {
		to++
	}
	return l[from], from, to, api.OK
}

// node is the place of an outline's node that is at a way.
func (m *model) node(steps []api.Step) (api.Place, bool) {
	p, why := render.Lies(m.doc, steps)
	return p, why == api.OK && m.doc.Kind(p.Obj) == api.Outline
}

func (m *model) fits(v api.Value, obj api.Id) bool {
	switch k := m.doc.Kind(obj); {
	case value.Right(v) != api.OK:
		return false
	case k == api.String:
		return v.Kind == api.Text && utf8.RuneCountInString(v.S) == 1
	case value.Scalar(v.Kind):
		return true
	default:
		return k != api.Outline && m.doc.Deep(obj) < api.MaxNest
	}
}

func name(id api.Id) api.Ref {
	switch {
	case id == api.Id{}:
		return api.Ref{}
	case id.Hash == api.Hash{}:
		return api.Ref{Kind: api.RefOwn, N: id.N}
	}
	return api.Ref{Kind: api.RefOp, Hash: id.Hash, N: id.N}
}

func (m *model) place(steps []api.Step) (api.Place, api.Errno) {
	if len(steps) == 0 || steps[len(steps)-1].Kind != api.ByKey {
		return render.Lies(m.doc, steps)
	}
	last := steps[len(steps)-1]
	if !words.Key(last.Key) || last.N != 0 {
		return api.Place{}, api.ErrField
	}
	n, _, _, why := m.at(steps[:len(steps)-1])
	if why == api.OK && n.Value.Kind != api.Map {
		why = api.ErrSort
	}
	return api.Place{Obj: n.Id, Key: last.Key}, why
}

// deed is a call by chance.
type deed struct {
	act      string
	steps    []api.Step
	into     []api.Step
	from, to int
	key      string
	v        api.Value
	n        int64
}

func (x deed) on(d *Draft) api.Errno {
	switch x.act {
	case "put":
		return d.Put(x.steps, x.v)
	case "delete":
		return d.Delete(x.steps)
	case "add":
		return d.Add(x.steps, x.n)
	case "insert":
		return d.Insert(x.steps, x.from, x.v)
	case "type":
		return d.Type(x.steps, x.from, x.to, x.v.S)
	case "rewrite":
		return d.Rewrite(x.steps, x.v.S)
	case "mark":
		return d.Mark(x.steps, x.from, x.to, x.key, x.v)
	case "grow":
		return d.Grow(x.steps, x.key, x.v)
	case "move":
		return d.Move(x.steps, x.into, x.key)
	}
	return d.Prune(x.steps)
}

// do is a call: its error, with which nothing is done.
func (m *model) do(x deed) api.Errno {
	next := &model{doc: m.doc.Fork(), edits: slices.Clone(m.edits)}
	why := next.call(x)
	if why == api.OK && len(next.edits) > api.MaxEdits {
		why = api.ErrFull
	}
	if why == api.OK {
		*m = *next
	}
	return why
}

func (m *model) say(l ...api.Edit) {
	for _, e := range l {
		m.edits = append(m.edits, e)
		m.doc.Do(edit.Op(e, api.Hash{}, len(m.edits), 1), func(api.Id) bool { return true })
	}
}

func (m *model) call(x deed) api.Errno {
	switch x.act {
	case "put", "delete", "add":
		return m.callPlace(x)
	case "grow", "move", "prune":
		return m.callNode(x)
	}
	n, _, _, why := m.at(x.steps)
	live := m.doc.Live(n.Id)
	both := n.Value.Kind == api.String || n.Value.Kind == api.List && (x.act == "insert" || x.act == "mark")
	switch {
	case why != api.OK:
		return why
	case !both:
		return api.ErrSort
	}
	switch x.act {
	case "insert":
		if x.from < 0 || x.from > len(live) {
			return api.ErrPlace
		}
		if !m.fits(x.v, n.Id) {
			return api.ErrValue
		}
		m.say(api.Edit{Act: api.Insert, Obj: name(n.Id), At: name(append(live, api.Id{})[(x.from+len(live))%(len(live)+1)]), Value: x.v})
	case "mark":
		switch {
		case !(0 <= x.from && x.from < x.to && x.to <= len(live)):
			return api.ErrPlace
		case !words.Key(x.key):
			return api.ErrField
		case value.Right(x.v) != api.OK || !value.Scalar(x.v.Kind):
			return api.ErrValue
		}
		m.say(api.Edit{Act: api.Mark, Obj: name(n.Id), At: name(live[x.from]), To: name(live[x.to-1]), Key: x.key, Value: x.v, Sides: 2})
	case "type":
		if x.from < 0 || x.to < 0 || x.from+x.to > len(live) {
			return api.ErrPlace
		}
		fallthrough
	case "rewrite":
		if !utf8.ValidString(x.v.S) {
			return api.ErrValue
		}
		l := []api.Patch{{At: x.from, Count: x.to, Text: x.v.S}}
		if x.act == "rewrite" {
			l, _ = modelScript(n.Text, x.v.S)
		}
		for _, p := range l {
			m.typed(n.Id, p)
		}
	}
	return api.OK
}

func (m *model) typed(obj api.Id, p api.Patch) {
	live := m.doc.Live(obj)
	behind := api.Ref{}
	if p.At > 0 {
		behind = name(live[p.At-1])
	}
	for _, id := range live[p.At : p.At+p.Count] {
		m.say(api.Edit{Act: api.Delete, Obj: name(obj), At: name(id)})
	}
	for _, s := range strings.Split(p.Text, "") {
		m.say(api.Edit{Act: api.Insert, Obj: name(obj), At: behind, Value: text(s)})
		behind = api.Ref{Kind: api.RefOwn, N: len(m.edits)}
	}
}

func (m *model) callPlace(x deed) api.Errno {
	p, why := m.place(x.steps)
	if x.act != "put" {
		p, why = render.Lies(m.doc, x.steps)
	}
	top, _ := m.doc.Top(p)
	e := api.Edit{Obj: name(p.Obj), At: name(p.At), Key: p.Key}
	switch {
	case why != api.OK:
		return why
	case x.act == "put" && !m.fits(x.v, p.Obj):
		return api.ErrValue
	case x.act == "put":
		e.Act, e.Value = api.Put, x.v
	case x.act == "delete" && m.doc.Kind(p.Obj) == api.Outline || x.act == "add" && top.Value.Kind != api.Counter:
		return api.ErrSort
	case x.act == "delete":
		e.Act = api.Delete
	default:
		e.Act, e.N = api.Add, x.n
	}
	m.say(e)
	return api.OK
}

func (m *model) callNode(x deed) api.Errno {
	n, from, to, why := m.at(x.steps)
	if why != api.OK {
		return why
	}
	p, is := m.node(x.steps)
	switch x.act {
	case "prune":
		if !is {
			return api.ErrSort
		}
		m.say(api.Edit{Act: api.Prune, Obj: name(p.Obj), At: name(p.At)})
	case "grow":
		if !is && n.Value.Kind != api.Outline {
			return api.ErrSort
		}
		if !is {
			p = api.Place{Obj: n.Id}
		}
		if !words.Key(x.key) {
			return api.ErrField
		}
		if !m.fits(x.v, p.Obj) {
			return api.ErrValue
		}
		m.say(api.Edit{Act: api.Grow, Obj: name(p.Obj), At: name(p.At), Key: x.key, Value: x.v})
	case "move":
		under, at, _, why := m.at(x.into)
		if why != api.OK {
			return why
		}
		q, isNode := m.node(x.into)
		if !isNode {
			q = api.Place{Obj: under.Id}
		}
		switch {
		case !is || !isNode && under.Value.Kind != api.Outline || q.Obj != p.Obj:
			return api.ErrSort
		case from <= at && at < to:
			return api.ErrRing
		case !words.Key(x.key):
			return api.ErrField
		}
		m.say(api.Edit{Act: api.Move, Obj: name(p.Obj), At: name(p.At), To: name(q.At), Key: x.key})
	}
	return api.OK
}

// anyWay is a way by chance: mostly to something that is there.
func anyWay(r *rand.Rand, d *doc.Doc) []api.Step {
	var l []api.Step
	for {
		step := pickOne(r, byKey(anyKey(r)), byIndex(r.Intn(4)), byChild(r.Intn(3)))
		longer := append(slices.Clone(l), step)
		_, why := render.Lies(d, longer)
		switch {
		case why == api.OK:
			l = longer
		case r.Intn(200) == 0:
			return append(longer, pickOne(r, byKey(""), byIndex(-1), byKey("a"), byIndex(1)))
		case r.Intn(30) == 0:
			return longer
		}
		if r.Intn(7) == 0 || len(l) > 6 {
			return l
		}
	}
}

func anyDeed(r *rand.Rand, d *doc.Doc) deed {
	x := deed{act: pickOne(r, "put", "put", "put", "delete", "add", "insert", "insert", "type", "type", "rewrite", "mark", "grow", "grow", "move", "move", "prune"), n: int64(r.Intn(9) - 4)}
	x.steps, x.into = anyWay(r, d), anyWay(r, d)
	for range 200 { // to something of the sort that is asked for, if there is one
		p, why := render.Lies(d, x.steps)
		top, _ := d.Top(p)
		fits := top.Value.Kind == api.String || top.Value.Kind == api.List
		switch x.act {
		case "put", "delete":
			fits = true
		case "add":
			fits = top.Value.Kind == api.Counter
		case "type", "rewrite":
			fits = top.Value.Kind == api.String
		case "grow":
			fits = top.Value.Kind == api.Outline || d.Kind(p.Obj) == api.Outline
		case "move", "prune":
			fits = d.Kind(p.Obj) == api.Outline
		}
		if why == api.OK && fits || r.Intn(100) == 0 {
			break
		}
		x.steps = anyWay(r, d)
	}
	if len(x.steps) > 0 && r.Intn(2) == 0 {
		x.into = slices.Concat(x.steps[:r.Intn(len(x.steps)+1)], pickOne(r, nil, by(byChild(r.Intn(3)))))
	}
	x.from = r.Intn(5) - 1
	x.to = pickOne(r, 0, 1, x.from+1, x.from+2, r.Intn(6)-1)
	x.key = pickOne(r, anyKey(r), anyKey(r), anyKey(r), anyKey(r), anyKey(r), "", "\n")
	x.v = pickOne(r, anyValue(r), anyValue(r), text("é"), text("xy"), text(anyText(r, 5)), text("\xff"), api.Value{Kind: 99})
	return x
}

// P19.1 to P19.4: drafts by chance over graphs by chance, held against the chapter's words
func TestByChance(t *testing.T) {
	r := rand.New(rand.NewSource(194))
	good, bad := map[string]int{}, map[api.Errno]int{}
	for range 120 {
		w := anyWorld(t, r, r.Intn(20))
		d, why := New(w.g, 1+r.Intn(5))
		ok(t, why)
		start, _ := history.At(w.g, w.g.Heads())
		m := &model{doc: start}
		filled := r.Intn(api.MaxEdits)
		for n := range 60 + filled {
			x := anyDeed(r, m.doc)
			if n < filled { // so that some have little room
				x = deed{act: "put", steps: by(byKey("f")), v: whole(n)}
			}
			want := m.do(x)
			if got := x.on(d); got != want {
				t.Fatalf("%v: %d, not %d", x, got, want)
			}
			if want == api.OK {
				good[x.act]++
			}
			bad[want]++
			if !slices.Equal(d.Edits(), m.edits) {
				t.Fatalf("%v: %v, not %v", x, d.Edits(), m.edits)
			}
		}
		if got, want := render.Full(d.Nodes()), render.Full(render.Nodes(m.doc)); got != want {
			t.Fatalf("%s, not %s", got, want)
		}
	}
	for _, act := range strings.Fields("put delete add insert type rewrite mark grow move prune") {
		if good[act] < 20 {
			t.Errorf("only %d calls of %s were done", good[act], act)
		}
	}
	for _, why := range []api.Errno{api.ErrFull, api.ErrField, api.ErrValue, api.ErrSort, api.ErrPlace, api.ErrRing, api.ErrAbsent} {
		if bad[why] < 10 {
			t.Errorf("only %d calls had the error %d", bad[why], why)
		}
	}
}

// named are nodes in which the draft's own Ids are those of an update, and what stands at one position in an outline stands in order.
func named(l []api.Node, id api.Hash) []api.Node {
	for i := range l {
		if l[i].Id.N > 0 && l[i].Id.Hash == (api.Hash{}) {
			l[i].Id.Hash = id
		}
	}
	return sorted(l)
}

// sorted puts the parts that lie in the first node in order: those of a Map or a List stand so already.
func sorted(l []api.Node) []api.Node {
	var parts [][]api.Node
	for i := 1; i < len(l); {
		to := i + 1
		for to < len(l) && l[to].Deep > l[i].Deep {
			to++
		}
		parts = append(parts, sorted(l[i:to]))
		i = to
	}
	slices.SortStableFunc(parts, func(a, b []api.Node) int {
		if c := strings.Compare(a[0].Key, b[0].Key); c != 0 || a[0].Key == "" {
			return c
		}
		return digest.Compare(a[0].Id.Hash, b[0].Id.Hash)
	})
	return append(l[:1:1], slices.Concat(parts...)...)
}

// P19.5, P19.7: what the draft shows is what its update makes
func TestAsShown(t *testing.T) {
	r := rand.New(rand.NewSource(197))
	for range 80 {
		w := anyWorld(t, r, r.Intn(25))
		for len(w.g.Heads()) > api.MaxParents {
			w.add(t, 9, w.g.Heads()[:api.MaxParents])
		}
		author := 1 + r.Intn(5)
		d, why := New(w.g, author)
		ok(t, why)
		for range r.Intn(40) {
			anyDeed(r, d.doc).on(d)
		}
		u, why := d.Update(3, "by chance")
		ok(t, why)
		if !slices.Equal(u.Parents, w.g.Heads()) || u.Author != author || u.Time != 3 || u.Note != "by chance" || !slices.Equal(u.Edits, d.Edits()) {
			t.Fatalf("%v", u)
		}
		id, why := w.g.Add(u)
		ok(t, why)
		ops, why := update.Ops(u)
		ok(t, why)
		all, _ := history.At(w.g, w.g.Heads())
		if got, want := render.Full(sorted(render.Nodes(all))), render.Full(named(d.Nodes(), id)); got != want {
			t.Fatalf("%v: %s, not %s", ops, got, want)
		}
	}
}
