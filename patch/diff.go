package patch

import (
	"iter"
	"slices"
	"strings"

	"estuary/api"
)

// patches are those that were found so far. (Sound nodes have right values alone: their floats are the same by == just where they are by their bits.)
type patches []api.Patch

// add adds a patch at a way.
func (l *patches) add(at []api.Step, p api.Patch) {
	p.Way = slices.Clone(at)
	*l = append(*l, p)
}

// set adds that a branch is there.
func (l *patches) set(at []api.Step, y *branch) {
	l.add(at, api.Patch{Kind: api.PatchSet, Nodes: y.nodes()})
}

// between adds what changed from one branch to another, at a way; whether they were set anew there.
func (l *patches) between(at []api.Step, x, y *branch) bool {
	if x.node.Value != y.node.Value || x.node.Key != y.node.Key {
		l.set(at, y)
		return true
	}
	if x.node.Id != y.node.Id || x.node.More != y.node.More {
		l.add(at, api.Patch{Kind: api.PatchMore, Nodes: []api.Node{{Id: y.node.Id, More: y.node.More}}})
	}
	if len(at) < api.MaxSteps {
		l.inside(at, x, y)
		return false
	}
	if sameInside(x, y) {
		return false
	}
	l.set(at, y) // no way goes in deeper
	return true
}

// inside adds what changed in branches whose first nodes have one Value.
func (l *patches) inside(at []api.Step, x, y *branch) {
	unmarked := false // the marks of x are gone by what changed ahead of them
	switch x.node.Value.Kind {
	case api.Map:
		l.keys(at, x, y)
	case api.List:
		unmarked = l.row(at, api.ByIndex, x, y)
	case api.String:
		unmarked = l.text(at, x.node.Text, y.node.Text)
	default:
		l.row(at, api.ByChild, x, y)
	}
	spans := x.node.Spans
	if unmarked {
		spans = nil
	}
	if !slices.Equal(spans, y.node.Spans) {
		l.add(at, api.Patch{Kind: api.PatchSpans, Spans: slices.Clone(y.node.Spans)})
	}
}

// keys adds what changed in maps.
func (l *patches) keys(at []api.Step, x, y *branch) {
	key := func(b *branch) []api.Step { return further(at, api.Step{Kind: api.ByKey, Key: b.node.Key}) }
	for p, q := range together(x.kids, y.kids, compareKeys) {
		switch {
		case q == nil:
			l.add(key(p), api.Patch{Kind: api.PatchDrop})
		case p == nil:
			l.set(key(q), q)
		default:
			l.between(key(p), p, q)
		}
	}
}

func compareKeys(a, b *branch) int {
	return strings.Compare(a.node.Key, b.node.Key)
}

// row adds what changed in lists, or outlines; whether something of it was dropped, set anew, or came in.
func (l *patches) row(at []api.Step, by api.StepKind, x, y *branch) bool {
	number := func(n int) []api.Step { return further(at, api.Step{Kind: by, N: n}) }
	front, end := common(x.kids, y.kids, alike)
	from, to := len(x.kids)-end, len(y.kids)-end
	changed := from > front || to > front
	for n := range front {
		changed = l.between(number(n), x.kids[n], y.kids[n]) || changed
	}
	for range from - front {
		l.add(number(front), api.Patch{Kind: api.PatchDrop})
	}
	for n := front; n < to; n++ {
		l.add(number(n), api.Patch{Kind: api.PatchInsert, Nodes: y.kids[n].nodes()})
	}
	for n := range end {
		changed = l.between(number(to+n), x.kids[from+n], y.kids[to+n]) || changed
	}
	return changed
}

func alike(a, b *branch) bool {
	return a.node.Id == b.node.Id && a.node.Key == b.node.Key
}

// text adds what changed from one text to another; whether something did.
func (l *patches) text(at []api.Step, old, now string) bool {
	if old == now {
		return false
	}
	a, b := []rune(old), []rune(now)
	front, end := common(a, b, func(a, b rune) bool { return a == b })
	l.add(at, api.Patch{Kind: api.PatchText, At: front, Count: len(a) - end - front, Text: string(b[front : len(b)-end])})
	return true
}

// further is a way with one more step, in new memory.
func further(at []api.Step, step api.Step) []api.Step {
	return append(slices.Clone(at), step)
}

// sameInside tells whether two branches are the same but for what their first nodes are.
func sameInside(x, y *branch) bool {
	return x.node.Text == y.node.Text && slices.Equal(x.node.Spans, y.node.Spans) && slices.EqualFunc(x.nodes()[1:], y.nodes()[1:], sameNode)
}

func sameNode(a, b api.Node) bool {
	return a.Deep == b.Deep && a.Key == b.Key && a.Id == b.Id && a.Value == b.Value && a.More == b.More && a.Text == b.Text && slices.Equal(a.Spans, b.Spans)
}

// together goes through two rising rows: what both have comes in pairs, what one of them alone has with a zero value beside it.
func together[T any](a, b []T, compare func(T, T) int) iter.Seq2[T, T] {
	return func(yield func(T, T) bool) {
		for i, j := 0, 0; i < len(a) || j < len(b); {
			var first, second T
			var side int
			switch {
			case j == len(b):
				side = -1
			case i == len(a):
				side = 1
			default:
				side = compare(a[i], b[j])
			}
			if side <= 0 {
				first = a[i]
				i++
			}
			if side >= 0 {
				second = b[j]
				j++
			}
			if !yield(first, second) {
				return
			}
		}
	}
}

// common is how many of two rows are alike two by two from the front on, and of those that are left, from the end on.
func common[T any](a, b []T, alike func(T, T) bool) (front, end int) {
	short := min(len(a), len(b))
	for front < short && alike(a[front], b[front]) {
		front++
	}
	for front+end < short && alike(a[len(a)-1-end], b[len(b)-1-end]) {
		end++
	}
	return front, end
}
