package render

import (
	"cmp"
	"iter"
	"strings"
	"unicode/utf8"

	"estuary/api"
	"estuary/value"
	"estuary/words"
)

// part is nodes that could be one and what lies in it, with what shows of each when all are looked through.
type part struct {
	nodes []api.Node
	facts []fact
}

// fact is what a node is to the others.
type fact struct {
	shape
	in   int    // the number of the node in which it lies
	kids int    // how many lie in it
	last string // the key of the last one of these
}

// look looks nodes through; false, if they are no part.
func look(l []api.Node) (part, bool) {
	p := part{nodes: l, facts: make([]fact, len(l))}
	var newest []int // of each Deep up to the last node's the number of the last one
	for i, n := range l {
		if n.Deep < 0 || n.Deep > len(newest) || (n.Deep == 0) != (i == 0) || !rightAlone(n) {
			return part{}, false
		}
		if n.Deep == 0 {
			p.facts[i].shape = shapeOfFirst(n.Value.Kind)
		} else if !p.lay(i, newest[n.Deep-1]) {
			return part{}, false
		}
		newest = append(newest[:n.Deep], i)
	}
	return p, len(l) > 0 && p.rightSpans()
}

// rightAlone tells whether a node can be, whatever it lies in and whatever lies in it.
func rightAlone(n api.Node) bool {
	text := n.Text == "" || n.Value.Kind == api.String && utf8.ValidString(n.Text)
	return value.Right(n.Value) == api.OK && n.More >= 0 && text
}

// lay notes that a node lies in another one; false, if it cannot.
func (p *part) lay(i, in int) bool {
	n, outer := p.nodes[i], &p.facts[in]
	if !outer.takes(n) {
		return false
	}
	outer.kids++
	outer.last = n.Key
	p.facts[i] = fact{shape: shapeIn(outer.shape, n.Value.Kind), in: in}
	return true
}

// takes tells whether a node can lie in another one, behind those that do.
func (f *fact) takes(n api.Node) bool {
	switch f.leads() {
	case api.ByKey:
		return words.Key(n.Key) && n.Key > f.last
	case api.ByIndex:
		return n.Key == ""
	case api.ByChild:
		return words.Key(n.Key) && n.Key >= f.last && value.Scalar(n.Value.Kind)
	}
	return false
}

func (p *part) rightSpans() bool {
	for i, n := range p.nodes {
		for j, s := range n.Spans {
			if !rightSpan(s) || s.To > p.length(i) || j > 0 && compareSpans(n.Spans[j-1], s) >= 0 {
				return false
			}
		}
	}
	return true
}

// length is how many there are in a node that can have marks; 0 of one that has none.
func (p *part) length(i int) int {
	switch p.nodes[i].Value.Kind {
	case api.List:
		return p.facts[i].kids
	case api.String:
		return utf8.RuneCountInString(p.nodes[i].Text)
	}
	return 0
}

func rightSpan(s api.Span) bool {
	v := s.Value
	return s.From >= 0 && s.From < s.To && words.Key(s.Name) && value.Right(v) == api.OK && value.Scalar(v.Kind) && v.Kind != api.Null
}

func compareSpans(a, b api.Span) int {
	return cmp.Or(cmp.Compare(a.From, b.From), cmp.Compare(a.To, b.To), strings.Compare(a.Name, b.Name))
}

// text is the text of the first node. The nodes are gone through in their row, and not in one another, for they may be very deep.
func (p *part) text() string {
	var b strings.Builder
	var open []int // the nodes whose text has not ended
	for i, n := range p.nodes {
		open = p.close(&b, open, n.Deep)
		p.open(&b, i)
		open = append(open, i)
	}
	p.close(&b, open, 0)
	return b.String()
}

// close ends texts till so many are open.
func (p *part) close(b *strings.Builder, open []int, n int) []int {
	for len(open) > n {
		f := p.facts[open[len(open)-1]]
		b.WriteString(f.closes(f.kids))
		open = open[:len(open)-1]
	}
	return open
}

// open begins a node's text.
func (p *part) open(b *strings.Builder, i int) {
	n, f := p.nodes[i], p.facts[i]
	if n.Deep > 0 && f.in != i-1 {
		b.WriteString(",")
	}
	if n.Deep > 0 && p.facts[f.in].leads() != api.ByIndex {
		b.WriteString(value.Quote(n.Key) + ":")
	}
	b.WriteString(f.opens(n, f.kids))
}

// find is the number of the node at a right way.
func (p *part) find(steps []api.Step) (int, api.Errno) {
	at := 0
	for _, step := range steps {
		if step.Kind != p.facts[at].leads() {
			return 0, api.ErrSort
		}
		next, ok := p.next(at, step)
		if !ok {
			return 0, api.ErrAbsent
		}
		at = next
	}
	return at, api.OK
}

// next is the number of the node to which a step leads from another one.
func (p *part) next(at int, step api.Step) (int, bool) {
	for n, i := range p.inside(at) {
		if step.Kind == api.ByKey && p.nodes[i].Key == step.Key || step.Kind != api.ByKey && n == step.N {
			return i, true
		}
	}
	return 0, false
}

// inside goes through the nodes that lie in one: the how manieth each is, and its number.
func (p *part) inside(at int) iter.Seq2[int, int] {
	return func(yield func(int, int) bool) {
		n, stop := 0, end(p.nodes, at)
		for i := at + 1; i < stop; i++ {
			if p.facts[i].in != at {
				continue
			}
			if !yield(n, i) {
				return
			}
			n++
		}
	}
}

// end is the number of the first node behind one that does not lie in it, nor in what lies in it.
func end(l []api.Node, at int) int {
	i := at + 1
	for i < len(l) && l[i].Deep > l[at].Deep {
		i++
	}
	return i
}
