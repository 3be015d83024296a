package render

import (
	"fmt"
	"math"
	"math/rand"
	"slices"
	"strings"
	"testing"
	"unicode/utf8"

	"estuary/api"
	"estuary/doc"
	"estuary/value"
)

func pick[T any](r *rand.Rand, l ...T) T { return l[r.Intn(len(l))] }

func whole(n int) api.Value { return api.Value{Kind: api.Int, N: int64(n)} }

func text(s string) api.Value { return api.Value{Kind: api.Text, S: s} }

func kind(k api.Kind) api.Value { return api.Value{Kind: k} }

func isScalar(v api.Value) bool { return v.Kind <= api.Counter }

// writer does ops on a document, and keeps what can be acted on.
type writer struct {
	d       *doc.Doc
	objects []object
	n       int
}

// object is one that an op made, with the elements, or nodes, that were put into it.
type object struct {
	id    api.Id
	kind  api.Kind
	parts []api.Id
}

func newWriter() *writer {
	return &writer{d: doc.New(), objects: []object{{kind: api.Map}}}
}

// all is a seen that has seen all.
func all(api.Id) bool { return true }

// do does an op that must be done; its Id.
func (w *writer) do(t *testing.T, o api.Op) api.Id {
	t.Helper()
	if !w.try(o, all) {
		t.Fatalf("passed over: %+v", o)
	}
	return api.Id{Hash: api.Hash{byte(w.n % 3)}, N: w.n}
}

func (w *writer) try(o api.Op, seen func(api.Id) bool) bool {
	w.n++
	o.Id = api.Id{Hash: api.Hash{byte(w.n % 3)}, N: w.n}
	if !w.d.Do(o, seen).Did() {
		return false
	}
	for i, x := range w.objects {
		if x.id == o.Obj && (o.Act == api.Insert || o.Act == api.Grow) {
			w.objects[i].parts = append(x.parts, o.Id)
		}
	}
	if !isScalar(o.Value) {
		w.objects = append(w.objects, object{id: o.Id, kind: o.Value.Kind})
	}
	return true
}

func anyScalar(r *rand.Rand) api.Value {
	return pick(r, kind(api.Null), api.Value{Kind: api.Bool, N: int64(r.Intn(2))}, whole(r.Intn(99)-50), text(pick(r, "", "x", "it's", "a\n\"b\\", "<>", "é,]")),
		api.Value{Kind: api.Float, F: pick(r, 1.5, -2e30, 1e-9, 0)}, api.Value{Kind: api.Bytes, S: pick(r, "", "\x00\xff")}, api.Value{Kind: api.Time, N: 12}, api.Value{Kind: api.Counter, N: int64(r.Intn(9) - 4)})
}

// anyOp is an op by chance on something that is there.
func (w *writer) anyOp(r *rand.Rand) api.Op {
	x := pick(r, w.objects...)
	o := api.Op{Obj: x.id, Key: pick(r, "a", "b", "b c", "\"", "'", "é", "<")}
	o.Value = pick(r, anyScalar(r), kind(api.Kind(8+r.Intn(4))))
	part, other := api.Id{}, api.Id{}
	if len(x.parts) > 0 {
		part, other = pick(r, append(x.parts, part)...), pick(r, x.parts...)
	}
	switch x.kind {
	case api.Map:
		o.Act = pick(r, api.Put, api.Put, api.Put, api.Delete, api.Add)
		o.N = 3
	case api.Outline:
		o.Act = pick(r, api.Grow, api.Grow, api.Grow, api.Put, api.Move, api.Move, api.Prune)
		o.At, o.To, o.Value = part, pick(r, other, api.Id{}), anyScalar(r)
		if o.Act == api.Put {
			o.Key = ""
		}
	default:
		o.Act = pick(r, api.Insert, api.Insert, api.Insert, api.Insert, api.Put, api.Delete, api.Mark)
		o.At, o.To, o.Sides = part, pick(r, other, api.Id{}), r.Intn(4)
		if x.kind == api.String && o.Act != api.Mark {
			o.Value = text(pick(r, "x", "'", "\"", "\\", "é", "\n", "\x00", " "))
		}
		if o.Act != api.Mark {
			o.Key = ""
		}
	}
	return o
}

// anyDoc has so many ops by chance; half of them have seen half of the others.
func anyDoc(r *rand.Rand, size int) *writer {
	w := newWriter()
	for range size {
		half := r.Intn(2)
		w.try(w.anyOp(r), func(id api.Id) bool { return half == 0 || id.N%2 == 0 })
	}
	return w
}

// branch is a node as it lies in others, by the chapter's words.
type branch struct {
	node  api.Node
	kids  []*branch
	step  api.Step
	place api.Place
}

// branchOf is what is shown at a place, or the root, with all that lies in it.
func branchOf(d *doc.Doc, p api.Place, key string, step api.Step, inOutline bool) *branch {
	b := &branch{place: p, step: step}
	l := d.Entries(p)
	if len(l) > 0 {
		b.node.Id, b.node.Value, b.node.More = l[len(l)-1].Id, l[len(l)-1].Value, len(l)-1
	}
	if step.Kind == 0 {
		b.node.Value.Kind = api.Map
	}
	b.node.Key = key
	obj, node := b.node.Id, api.Id{}
	if inOutline {
		obj, node = p.Obj, p.At
	}
	b.fill(d, obj, node, inOutline)
	return b
}

func (b *branch) fill(d *doc.Doc, obj, node api.Id, inOutline bool) {
	put := func(p api.Place, key string, step api.Step, outline bool) {
		b.kids = append(b.kids, branchOf(d, p, key, step, outline))
	}
	switch {
	case inOutline || b.node.Value.Kind == api.Outline:
		for i, kid := range d.Kids(obj, node) {
			put(api.Place{Obj: obj, At: kid}, d.Position(obj, kid), api.Step{Kind: api.ByChild, N: i}, true)
		}
	case b.node.Value.Kind == api.Map:
		for _, key := range d.Keys(obj) {
			put(api.Place{Obj: obj, Key: key}, key, api.Step{Kind: api.ByKey, Key: key}, false)
		}
	case b.node.Value.Kind == api.List:
		b.node.Spans = d.Spans(obj)
		for i, at := range d.Live(obj) {
			put(api.Place{Obj: obj, At: at}, "", api.Step{Kind: api.ByIndex, N: i}, false)
		}
	case b.node.Value.Kind == api.String:
		b.node.Spans = d.Spans(obj)
		for _, at := range d.Live(obj) {
			e, _ := d.Top(api.Place{Obj: obj, At: at})
			b.node.Text += e.Value.S
		}
	}
}

// flat is a branch as nodes.
func (b *branch) flat(deep int) []api.Node {
	n := b.node
	n.Deep = deep
	l := []api.Node{n}
	for _, kid := range b.kids {
		l = append(l, kid.flat(deep+1)...)
	}
	return l
}

// text is a branch's text by the chapter's words.
func (b *branch) text() string {
	var named, plain []string
	for _, kid := range b.kids {
		plain = append(plain, kid.text())
		named = append(named, value.Quote(kid.node.Key)+":"+kid.text())
	}
	switch b.node.Value.Kind {
	case api.Map:
		return "{" + strings.Join(named, ",") + "}"
	case api.List:
		return "[" + strings.Join(plain, ",") + "]"
	case api.Outline:
		return "<" + strings.Join(named, ",") + ">"
	case api.String:
		s := "'"
		for _, c := range b.node.Text {
			q := value.Quote(string(c))
			switch c {
			case '\'':
				s += `\'`
			case '"':
				s += `"`
			default:
				s += q[1 : len(q)-1]
			}
		}
		return s + "'"
	}
	s := value.Print(b.node.Value)
	if len(named) > 0 {
		s += "<" + strings.Join(named, ",") + ">"
	}
	return s
}

// outer is the number of the node in which one lies: the last one ahead of it whose Deep is one less.
func outer(l []api.Node, i int) int {
	for j := i - 1; j >= 0; j-- {
		if l[j].Deep == l[i].Deep-1 {
			return j
		}
	}
	return -1
}

func isOutlineNode(l []api.Node, i int) bool {
	if i == 0 {
		return isScalar(l[0].Value) && len(l) > 1
	}
	j := outer(l, i)
	return l[j].Value.Kind == api.Outline || isOutlineNode(l, j)
}

// within are the numbers of the nodes that lie in one.
func within(l []api.Node, at int) []int {
	var in []int
	for i := range l {
		if i > at && outer(l, i) == at {
			in = append(in, i)
		}
	}
	return in
}

func isKey(s string) bool {
	ok := len(s) >= 1 && len(s) <= 64 && utf8.ValidString(s)
	for _, c := range []byte(s) {
		ok = ok && c >= 32 && c != 127
	}
	return ok
}

// isPart tells by the chapter's words, sentence by sentence, whether nodes are a part.
func isPart(l []api.Node) bool {
	if len(l) == 0 || l[0].Deep != 0 {
		return false
	}
	for i := 1; i < len(l); i++ {
		if l[i].Deep < 1 || l[i].Deep > l[i-1].Deep+1 {
			return false
		}
	}
	for i, n := range l {
		if value.Right(n.Value) != api.OK || isOutlineNode(l, i) && !isScalar(n.Value) {
			return false
		}
		in := within(l, i)
		if len(in) > 0 && (isScalar(n.Value) && !isOutlineNode(l, i) || n.Value.Kind == api.String) {
			return false
		}
		if n.More < 0 || n.Text != "" && n.Value.Kind != api.String || !utf8.ValidString(n.Text) {
			return false
		}
		if !areKeys(l, i, in) || !areSpans(n, len(in)) {
			return false
		}
	}
	return true
}

// areKeys tells whether the keys of what lies in a node are as they must be.
func areKeys(l []api.Node, at int, in []int) bool {
	for j, i := range in {
		key := l[i].Key
		switch {
		case l[at].Value.Kind == api.List:
			if key != "" {
				return false
			}
		case !isKey(key):
			return false
		case l[at].Value.Kind == api.Map:
			if j > 0 && key <= l[in[j-1]].Key {
				return false
			}
		default:
			if j > 0 && key < l[in[j-1]].Key {
				return false
			}
		}
	}
	return true
}

func areSpans(n api.Node, kids int) bool {
	most := 0
	switch n.Value.Kind {
	case api.List:
		most = kids
	case api.String:
		most = len([]rune(n.Text))
	default:
		return len(n.Spans) == 0
	}
	for i, s := range n.Spans {
		if s.From < 0 || s.From >= s.To || s.To > most || !isKey(s.Name) || value.Right(s.Value) != api.OK || !isScalar(s.Value) || s.Value.Kind == api.Null {
			return false
		}
		if i == 0 {
			continue
		}
		p := n.Spans[i-1]
		if p.From > s.From || p.From == s.From && (p.To > s.To || p.To == s.To && p.Name >= s.Name) {
			return false
		}
	}
	return true
}

// isSound tells whether nodes are sound.
func isSound(l []api.Node) bool {
	if !isPart(l) {
		return false
	}
	first := l[0]
	return first.Value == kind(api.Map) && first.Key == "" && first.Id == api.Id{} && first.More == 0 && first.Text == "" && len(first.Spans) == 0
}

// branchAt is the node number at of a part, with all that lies in it.
func branchAt(l []api.Node, at int) *branch {
	b := &branch{node: l[at]}
	for _, i := range within(l, at) {
		b.kids = append(b.kids, branchAt(l, i))
	}
	return b
}

// wantFind goes a way by the chapter's words.
func wantFind(l []api.Node, steps []api.Step) (int, api.Errno) {
	at := 0
	for _, s := range steps {
		k := l[at].Value.Kind
		outlines := k == api.Outline || isOutlineNode(l, at) || at == 0 && isScalar(l[0].Value)
		if !(s.Kind == api.ByKey && k == api.Map || s.Kind == api.ByIndex && k == api.List || s.Kind == api.ByChild && outlines) {
			return 0, api.ErrSort
		}
		next := -1
		for n, i := range within(l, at) {
			if s.Kind == api.ByKey && l[i].Key == s.Key || s.Kind != api.ByKey && n == s.N {
				next = i
			}
		}
		if next < 0 {
			return 0, api.ErrAbsent
		}
		at = next
	}
	return at, api.OK
}

// wantFull is the lines of a part by the chapter's words.
func wantFull(l []api.Node) string {
	s := ""
	for _, n := range l {
		key, val := "-", value.Print(n.Value)
		if n.Key != "" {
			key = value.Quote(n.Key)
		}
		if !isScalar(n.Value) {
			val = value.Name(n.Value.Kind)
		}
		s += fmt.Sprintf("%s%s %s %x.%d", strings.Repeat("  ", n.Deep), key, val, n.Id.Hash[:4], n.Id.N)
		if n.More > 0 {
			s += fmt.Sprintf(" +%d", n.More)
		}
		if n.Value.Kind == api.String {
			s += " " + value.Quote(n.Text)
		}
		for _, x := range n.Spans {
			s += fmt.Sprintf(" %d-%d:%s=%s", x.From, x.To, value.Quote(x.Name), value.Print(x.Value))
		}
		s += "\n"
	}
	return s
}

// sameNodes holds nodes against each other; lists without elements are alike.
func sameNodes(a, b []api.Node) bool {
	return slices.EqualFunc(a, b, func(m, n api.Node) bool {
		spans := slices.Equal(m.Spans, n.Spans)
		m.Spans, n.Spans = nil, nil
		return spans && fmt.Sprint(m) == fmt.Sprint(n) && math.Float64bits(m.Value.F) == math.Float64bits(n.Value.F)
	})
}

// bare is nodes as Parse reads them.
func bare(l []api.Node) []api.Node {
	l = slices.Clone(l)
	for i := range l {
		l[i].Id, l[i].More, l[i].Spans = api.Id{}, 0, nil
	}
	return l
}

// strict reads texts by the grammar that Text follows, one node in the other.
type strict struct {
	s  string
	at int
	ok bool
}

// wantParse tells whether a text is that of sound nodes: of a Map by the grammar.
func wantParse(s string) (*branch, bool) {
	p := &strict{s: s, ok: true}
	b := p.value(false)
	return b, p.ok && p.at == len(s) && b.node.Value.Kind == api.Map
}

func (p *strict) peek() byte {
	if p.at < len(p.s) {
		return p.s[p.at]
	}
	return 0
}

func (p *strict) expect(c byte) {
	p.ok = p.ok && p.peek() == c
	p.at++
}

func (p *strict) value(inOutline bool) *branch {
	b := &branch{}
	if !p.ok {
		return b
	}
	switch c := p.peek(); {
	case c == '{' && !inOutline:
		b.node.Value.Kind = api.Map
		p.items(b, '{', '}', true, false)
	case c == '[' && !inOutline:
		b.node.Value.Kind = api.List
		p.items(b, '[', ']', false, false)
	case c == '<' && !inOutline:
		b.node.Value.Kind = api.Outline
		p.items(b, '<', '>', true, true)
	case c == '\'' && !inOutline:
		b.node.Value.Kind = api.String
		b.node.Text = p.single()
	default:
		b.node.Value = p.scalar()
		if inOutline && p.peek() == '<' {
			p.items(b, '<', '>', true, true)
			p.ok = p.ok && len(b.kids) > 0
		}
	}
	return b
}

func (p *strict) items(b *branch, begin, end byte, named, inOutline bool) {
	p.expect(begin)
	for first := true; p.ok && (!first || p.peek() != end); first = false {
		key := ""
		if named {
			k, size, why := value.Unquote(p.s[min(p.at, len(p.s)):])
			p.ok = why == api.OK && isKey(k)
			p.at += size
			p.expect(':')
			key = k
		}
		kid := p.value(inOutline)
		kid.node.Key = key
		if n := len(b.kids); named && n > 0 && (b.kids[n-1].node.Key > key || !inOutline && b.kids[n-1].node.Key == key) {
			p.ok = false
		}
		b.kids = append(b.kids, kid)
		if p.peek() != ',' {
			break
		}
		p.at++
	}
	p.expect(end)
}

func (p *strict) single() string {
	s := ""
	for p.at++; p.ok && p.peek() != '\''; {
		c, size := utf8.DecodeRuneInString(p.s[min(p.at, len(p.s)):])
		if size == 0 || c == utf8.RuneError && size == 1 {
			p.ok = false
			return ""
		}
		if c == '"' || strings.HasPrefix(p.s[p.at:], `\'`) {
			size = max(size, 1)
			if c == '\\' {
				c, size = '\'', 2
			}
		} else if c == '\\' || c < ' ' || c == 127 {
			one, n := escape(p.s[p.at:])
			if n == 0 {
				p.ok = false
				return ""
			}
			c, size = one, n
		}
		s += string(c)
		p.at += size
	}
	p.at++
	return s
}

// escape is the character that a text begins with, written with a \ as value.Quote does (but for the quotes), and its size there.
func escape(s string) (rune, int) {
	for c := range rune(128) {
		q := value.Quote(string(c))
		if q = q[1 : len(q)-1]; c != '"' && q[0] == '\\' && strings.HasPrefix(s, q) {
			return c, len(q)
		}
	}
	return 0, 0
}

// scalar reads the longest beginning that is a scalar's text.
func (p *strict) scalar() api.Value {
	rest := p.s[min(p.at, len(p.s)):]
	for size := min(len(rest), 3000); size > 0; size-- {
		if v, why := value.Parse(rest[:size]); why == api.OK && isScalar(v) {
			p.at += size
			return v
		}
	}
	p.ok = false
	return api.Value{}
}
