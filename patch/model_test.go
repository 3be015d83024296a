package patch

import (
	"math"
	"math/rand"
	"slices"
	"testing"
	"unicode/utf8"

	"estuary/api"
	"estuary/render"
	"estuary/way"
)

func pick[T any](r *rand.Rand, l ...T) T { return l[r.Intn(len(l))] }

func whole(n int) api.Value { return api.Value{Kind: api.Int, N: int64(n)} }

func kindAlone(k api.Kind) api.Value { return api.Value{Kind: k} }

func byKey(key string) api.Step { return api.Step{Kind: api.ByKey, Key: key} }

func byIndex(n int) api.Step { return api.Step{Kind: api.ByIndex, N: n} }

func byChild(n int) api.Step { return api.Step{Kind: api.ByChild, N: n} }

func steps(l ...api.Step) []api.Step { return l }

// sameBits holds values against each other, floats by their bits.
func sameBits(a, b api.Value) bool {
	bits := math.Float64bits(a.F) == math.Float64bits(b.F)
	a.F, b.F = 0, 0
	return bits && a == b
}

func sameSpans(a, b []api.Span) bool {
	return slices.EqualFunc(a, b, func(a, b api.Span) bool {
		return a.From == b.From && a.To == b.To && a.Name == b.Name && sameBits(a.Value, b.Value)
	})
}

func sameNodes(a, b []api.Node) bool {
	return slices.EqualFunc(a, b, func(a, b api.Node) bool {
		return a.Deep == b.Deep && a.Key == b.Key && a.Id == b.Id && sameBits(a.Value, b.Value) && a.More == b.More && a.Text == b.Text && sameSpans(a.Spans, b.Spans)
	})
}

func samePatches(a, b []api.Patch) bool {
	return slices.EqualFunc(a, b, func(a, b api.Patch) bool {
		return a.Kind == b.Kind && slices.Equal(a.Way, b.Way) && sameNodes(a.Nodes, b.Nodes) && a.At == b.At && a.Count == b.Count && a.Text == b.Text && sameSpans(a.Spans, b.Spans)
	})
}

func lines(l []api.Patch) string {
	s := ""
	for _, p := range l {
		s += Print(p) + "\n"
	}
	return s
}

// copied is nodes in their own memory.
func copied(l []api.Node) []api.Node {
	l = slices.Clone(l)
	for i := range l {
		l[i].Spans = slices.Clone(l[i].Spans)
	}
	return l
}

// isSound tells by the chapters' words whether nodes are sound; which are a part, render tells.
func isSound(l []api.Node) bool {
	if _, why := render.Find(l, nil); why != api.OK {
		return false
	}
	root := []api.Node{{Value: kindAlone(api.Map)}}
	return sameNodes(l[:1], root)
}

// pieces are the parts that lie in the first node of a part.
func pieces(l []api.Node) [][]api.Node {
	var all [][]api.Node
	for _, n := range l[1:] {
		n.Deep--
		if n.Deep == 0 {
			all = append(all, nil)
		}
		all[len(all)-1] = append(all[len(all)-1], n)
	}
	return all
}

func longer(w []api.Step, step api.Step) []api.Step { return append(slices.Clone(w), step) }

// modelDiff is the patches from x to y by the chapter's words.
func modelDiff(w []api.Step, x, y []api.Node) []api.Patch {
	var l []api.Patch
	X, Y := x[0], y[0]
	set := api.Patch{Kind: api.PatchSet, Way: w, Nodes: y}
	if !sameBits(X.Value, Y.Value) || X.Key != Y.Key {
		return append(l, set)
	}
	if X.Id != Y.Id || X.More != Y.More {
		l = append(l, api.Patch{Kind: api.PatchMore, Way: w, Nodes: []api.Node{{Id: Y.Id, More: Y.More}}})
	}
	if len(w) == api.MaxSteps {
		if !sameNodes(x[1:], y[1:]) || X.Text != Y.Text || !sameSpans(X.Spans, Y.Spans) {
			l = append(l, set)
		}
		return l
	}
	switch X.Value.Kind {
	case api.Map:
		l = append(l, modelKeys(w, pieces(x), pieces(y))...)
	case api.List:
		l = append(l, modelRow(w, api.ByIndex, pieces(x), pieces(y))...)
	case api.String:
		if X.Text != Y.Text {
			l = append(l, modelText(w, []rune(X.Text), []rune(Y.Text)))
		}
	default:
		l = append(l, modelRow(w, api.ByChild, pieces(x), pieces(y))...)
	}
	spans := X.Spans
	for _, p := range l {
		if p.Kind == api.PatchText && len(p.Way) == len(w) || p.Kind <= api.PatchInsert && len(p.Way) == len(w)+1 && X.Value.Kind == api.List {
			spans = nil
		}
	}
	if !sameSpans(spans, Y.Spans) {
		l = append(l, api.Patch{Kind: api.PatchSpans, Way: w, Spans: Y.Spans})
	}
	return l
}

func modelKeys(w []api.Step, x, y [][]api.Node) []api.Patch {
	old, now := map[string][]api.Node{}, map[string][]api.Node{}
	var keys []string
	for _, p := range x {
		old[p[0].Key] = p
		keys = append(keys, p[0].Key)
	}
	for _, p := range y {
		now[p[0].Key] = p
		keys = append(keys, p[0].Key)
	}
	slices.Sort(keys)
	var l []api.Patch
	for _, key := range slices.Compact(keys) {
		at := longer(w, byKey(key))
		switch {
		case now[key] == nil:
			l = append(l, api.Patch{Kind: api.PatchDrop, Way: at})
		case old[key] == nil:
			l = append(l, api.Patch{Kind: api.PatchSet, Way: at, Nodes: now[key]})
		default:
			l = append(l, modelDiff(at, old[key], now[key])...)
		}
	}
	return l
}

func modelRow(w []api.Step, by api.StepKind, x, y [][]api.Node) []api.Patch {
	alike := func(i, j int) bool {
		return i >= 0 && j >= 0 && i < len(x) && j < len(y) && x[i][0].Id == y[j][0].Id && x[i][0].Key == y[j][0].Key
	}
	f, e := 0, 0
	for alike(f, f) {
		f++
	}
	for len(x)-1-e >= f && len(y)-1-e >= f && alike(len(x)-1-e, len(y)-1-e) {
		e++
	}
	at := func(n int) []api.Step { return longer(w, api.Step{Kind: by, N: n}) }
	var l []api.Patch
	for i := 0; i < f; i++ {
		l = append(l, modelDiff(at(i), x[i], y[i])...)
	}
	for i := f; i < len(x)-e; i++ {
		l = append(l, api.Patch{Kind: api.PatchDrop, Way: at(f)})
	}
	for i := f; i < len(y)-e; i++ {
		l = append(l, api.Patch{Kind: api.PatchInsert, Way: at(i), Nodes: y[i]})
	}
	for i := len(y) - e; i < len(y); i++ {
		l = append(l, modelDiff(at(i), x[i+len(x)-len(y)], y[i])...)
	}
	return l
}

func modelText(w []api.Step, x, y []rune) api.Patch {
	f, e := 0, 0
	for f < len(x) && f < len(y) && x[f] == y[f] {
		f++
	}
	for f+e < len(x) && f+e < len(y) && x[len(x)-1-e] == y[len(y)-1-e] {
		e++
	}
	return api.Patch{Kind: api.PatchText, Way: w, At: f, Count: len(x) - f - e, Text: string(y[f : len(y)-e])}
}

// stop is the number of the first node behind one and all that lies in it.
func stop(l []api.Node, at int) int {
	i := at + 1
	for i < len(l) && l[i].Deep > l[at].Deep {
		i++
	}
	return i
}

// kids are the numbers of the nodes that lie in one.
func kids(l []api.Node, at int) []int {
	var all []int
	for i := at + 1; i < stop(l, at); i++ {
		if l[i].Deep == l[at].Deep+1 {
			all = append(all, i)
		}
	}
	return all
}

// modelDo does patches by the chapter's words, each on all nodes.
func modelDo(l []api.Node, p []api.Patch) ([]api.Node, bool) {
	if !isSound(l) {
		return nil, false
	}
	for _, one := range p {
		next, ok := modelStep(copied(l), one)
		if !ok || !isSound(next) {
			return nil, false
		}
		l = next
	}
	return l, true
}

func modelStep(l []api.Node, p api.Patch) ([]api.Node, bool) {
	if way.Right(p.Way) != api.OK {
		return nil, false
	}
	at, why := render.Find(l, p.Way)
	switch p.Kind {
	case api.PatchSet, api.PatchDrop, api.PatchInsert:
		return modelRows(l, p, at, why)
	case api.PatchText:
		return modelRewrite(l, p, at, why)
	case api.PatchSpans:
		if why != api.OK || l[at].Value.Kind != api.List && l[at].Value.Kind != api.String {
			return nil, false
		}
		l[at].Spans = p.Spans
		return l, true
	case api.PatchMore:
		if why != api.OK || len(p.Way) == 0 || len(p.Nodes) != 1 {
			return nil, false
		}
		l[at].Id, l[at].More = p.Nodes[0].Id, p.Nodes[0].More
		return l, true
	}
	return nil, false
}

func modelRewrite(l []api.Node, p api.Patch, at int, why api.Errno) ([]api.Node, bool) {
	if why != api.OK || l[at].Value.Kind != api.String || !utf8.ValidString(p.Text) {
		return nil, false
	}
	text := []rune(l[at].Text)
	if p.At < 0 || p.Count < 0 || uint64(p.At)+uint64(p.Count) > uint64(len(text)) {
		return nil, false
	}
	l[at].Text = string(slices.Concat(text[:p.At], []rune(p.Text), text[p.At+p.Count:]))
	l[at].Spans = nil
	return l, true
}

// modelRows does a Set, a Drop or an Insert: from one number up to another the nodes are others then.
func modelRows(l []api.Node, p api.Patch, at int, why api.Errno) ([]api.Node, bool) {
	if len(p.Way) == 0 {
		return nil, false
	}
	last := p.Way[len(p.Way)-1]
	in, upper := render.Find(l, p.Way[:len(p.Way)-1])
	if upper != api.OK || why != api.OK && why != api.ErrAbsent {
		return nil, false
	}
	from, to, nodes := at, 0, p.Nodes
	if why == api.OK {
		to = stop(l, at)
	} else {
		from = spotOfAbsent(l, in, last)
		to = from
	}
	switch {
	case p.Kind == api.PatchDrop:
		nodes = nil
		if why != api.OK {
			return nil, false
		}
	case len(nodes) == 0:
		return nil, false
	case p.Kind == api.PatchInsert:
		to = from
		if last.Kind == api.ByKey || last.N > len(kids(l, in)) {
			return nil, false
		}
	case last.Kind == api.ByKey && nodes[0].Key != last.Key, last.Kind != api.ByKey && why != api.OK:
		return nil, false
	}
	if _, part := render.Find(nodes, nil); part != api.OK && nodes != nil {
		return nil, false
	}
	if l[in].Value.Kind == api.List {
		l[in].Spans = nil
	}
	nodes = copied(nodes)
	for i := range nodes {
		nodes[i].Deep += l[in].Deep + 1
	}
	return slices.Concat(l[:from], nodes, l[to:]), true
}

// spotOfAbsent is the number that a node of a key that is not there would have; of a number, that behind all.
func spotOfAbsent(l []api.Node, in int, last api.Step) int {
	for _, i := range kids(l, in) {
		if last.Kind == api.ByKey && l[i].Key > last.Key {
			return i
		}
	}
	return stop(l, in)
}

// maker makes nodes by chance.
type maker struct {
	*rand.Rand
	ids int // of how many Ids
}

func (m maker) id() api.Id {
	n := m.Intn(m.ids)
	if n == 0 {
		return api.Id{}
	}
	return api.Id{Hash: api.Hash{byte(n % 3)}, N: n}
}

func (m maker) key() string { return pick(m.Rand, "a", "b", "b c", "c", "\"", "é") }

func (m maker) text() string {
	return pick(m.Rand, "", "a", "ab", "aab", "é\n", "xaéb", "a\x00'\"", "日本語")
}

func (m maker) scalar() api.Value {
	return pick(m.Rand, api.Value{}, api.Value{Kind: api.Bool, N: 1}, whole(m.Intn(3)), api.Value{Kind: api.Text, S: m.text()}, api.Value{Kind: api.Bytes, S: "\xff"},
		api.Value{Kind: api.Float, F: pick(m.Rand, 0, 1.5)}, api.Value{Kind: api.Time, N: 3}, api.Value{Kind: api.Counter, N: -2})
}

func (m maker) spans(length int) []api.Span {
	var l []api.Span
	for from := 0; from < length; from++ {
		if m.Intn(3) == 0 {
			l = append(l, api.Span{From: from, To: from + 1 + m.Intn(length-from), Name: m.key(), Value: whole(m.Intn(2))})
		}
	}
	return l
}

// branch is a tree by chance, so deep at most; in an outline its nodes are scalars in which others lie.
func (m maker) branch(deep int, outline bool) *branch {
	b := &branch{node: api.Node{Id: m.id(), More: m.Intn(4) / 2}}
	b.node.Value = m.scalar()
	if !outline && m.Intn(3) > 0 {
		b.node.Value = kindAlone(pick(m.Rand, api.Map, api.List, api.String, api.Outline))
	}
	if deep > 0 {
		m.fill(b, deep-1, outline || b.node.Value.Kind == api.Outline)
	}
	if b.node.Value.Kind == api.String {
		b.node.Text = m.text()
		b.node.Spans = m.spans(utf8.RuneCountInString(b.node.Text))
	}
	return b
}

func (m maker) fill(b *branch, deep int, outline bool) {
	k := b.node.Value.Kind
	if !outline && k != api.Map && k != api.List {
		return
	}
	var keys []string
	for range m.Intn(5) {
		keys = append(keys, m.key())
	}
	slices.Sort(keys)
	if k == api.Map {
		keys = slices.Compact(keys)
	}
	for _, key := range keys {
		kid := m.branch(deep, outline)
		if k != api.List {
			kid.node.Key = key
		}
		b.kids = append(b.kids, kid)
	}
	if k == api.List {
		b.node.Spans = m.spans(len(b.kids))
	}
}

func (m maker) doc(deep int) *branch {
	b := &branch{node: api.Node{Value: kindAlone(api.Map)}}
	m.fill(b, deep, false)
	return b
}

// tower is a document that goes very deep in one of its rows.
func (m maker) tower(deep int) *branch {
	root := m.doc(2)
	in := root
	for n := 0; n < deep; n++ {
		next := m.branch(1, false)
		next.node.Value = kindAlone(pick(m.Rand, api.Map, api.List))
		if deep-n < 4 {
			next.node.Value = kindAlone(pick(m.Rand, api.Map, api.List, api.String, api.Outline))
		}
		next.kids, next.node.Text, next.node.Spans = nil, "", nil
		m.fill(next, 2, next.node.Value.Kind == api.Outline)
		if next.node.Value.Kind == api.String {
			next.node.Text = m.text()
		}
		in.put(next)
		if next.node.Value.Kind > api.List {
			break
		}
		in = next
	}
	return root
}

// put puts a branch into a Map, at the last of its keys, or into a List, behind all.
func (b *branch) put(next *branch) {
	if b.node.Value.Kind == api.Map {
		next.node.Key = "é"
		b.kids = slices.DeleteFunc(b.kids, func(kid *branch) bool { return kid.node.Key == "é" })
	}
	b.kids = append(b.kids, next)
}

// changed is a tree that is another one but for some of it.
func (m maker) changed(b *branch, deep int, outline bool, odds int) *branch {
	c := &branch{node: b.node}
	c.node.Spans = slices.Clone(b.node.Spans)
	inOutline := outline || b.node.Value.Kind == api.Outline
	for _, kid := range b.kids {
		switch m.Intn(odds) {
		case 0:
		case 1:
			fresh := m.branch(1, inOutline)
			fresh.node.Key = kid.node.Key
			c.kids = append(c.kids, fresh)
		case 2:
			if b.node.Value.Kind != api.Map {
				fresh := m.branch(1, inOutline)
				fresh.node.Key = kid.node.Key
				c.kids = append(c.kids, fresh)
			}
			fallthrough
		default:
			c.kids = append(c.kids, m.changed(kid, deep+1, inOutline, odds))
		}
	}
	m.change(c, len(c.kids) != len(b.kids), deep, odds)
	return c
}

func (m maker) change(c *branch, other bool, deep, odds int) {
	if m.Intn(odds) == 0 && deep > 0 {
		c.node.Id = m.id()
	}
	if m.Intn(odds) == 0 && deep > 0 {
		c.node.More = m.Intn(3)
	}
	if c.node.Value.Kind == api.String && m.Intn(odds) < 2 {
		c.node.Text, other = m.text(), true
	}
	if (c.node.Value.Kind == api.String || c.node.Value.Kind == api.List) && (other || m.Intn(odds) == 0) {
		c.node.Spans = m.spans(c.length())
	}
}

// pair is two documents by chance that are alike, more or less.
func (m maker) pair() ([]api.Node, []api.Node) {
	a := m.doc(1 + m.Intn(4))
	if m.Intn(4) == 0 {
		a = m.tower(27 + m.Intn(12))
	}
	if m.Intn(5) == 0 {
		return a.nodes(), m.doc(1 + m.Intn(4)).nodes()
	}
	return a.nodes(), m.changed(a, 0, false, pick(m.Rand, 4, 8, 20, 100)).nodes()
}

func newMaker(seed int64) maker {
	return maker{Rand: rand.New(rand.NewSource(seed)), ids: 6}
}

// The maker makes what is asked of it.
func TestMaker(t *testing.T) {
	m := newMaker(1)
	deepest := 0
	for range 2000 {
		a, b := m.pair()
		if !isSound(a) || !isSound(b) {
			t.Fatalf("not sound:\n%v\n%v", a, b)
		}
		for _, n := range a {
			deepest = max(deepest, n.Deep)
		}
	}
	if deepest <= api.MaxSteps {
		t.Errorf("%d deep at most", deepest)
	}
}
