package patch

import (
	"slices"
	"strings"
	"unicode/utf8"

	"estuary/api"
	"estuary/way"
)

// do does a patch; false, if it does not fit.
func do(root *branch, p api.Patch) bool {
	k := kindOf(p.Kind)
	return k.do != nil && way.Right(p.Way) == api.OK && k.do(root, p)
}

// spot is where a way leads to, or would lead to: a number of what lies in a branch.
type spot struct {
	in    *branch
	step  api.Step // the way's last one
	at    int
	there bool // something is there
}

// spotAt is that of a way whose last step leads from the branch ahead of it; false, if there is none.
func spotAt(root *branch, steps []api.Step) (spot, bool) {
	in, next := root.reach(way.Up(steps))
	if len(steps) == 0 || in == nil || steps[len(steps)-1].Kind != next {
		return spot{}, false
	}
	s := spot{in: in, step: steps[len(steps)-1]}
	s.at, s.there = in.find(s.step)
	return s, true
}

func set(root *branch, p api.Patch) bool {
	s, ok := spotAt(root, p.Way)
	if !ok || !isPart(p.Nodes) {
		return false
	}
	switch {
	case s.step.Kind == api.ByKey && p.Nodes[0].Key != s.step.Key, s.step.Kind != api.ByKey && !s.there:
		return false
	case s.there:
		return s.in.replace(s.at, s.at+1, p.Nodes)
	}
	return s.in.replace(s.at, s.at, p.Nodes)
}

func drop(root *branch, p api.Patch) bool {
	s, ok := spotAt(root, p.Way)
	return ok && s.there && s.in.replace(s.at, s.at+1, nil)
}

func insert(root *branch, p api.Patch) bool {
	s, ok := spotAt(root, p.Way)
	return ok && s.step.Kind != api.ByKey && s.at <= len(s.in.kids) && isPart(p.Nodes) && s.in.replace(s.at, s.at, p.Nodes)
}

// replace lets a part, or nothing, be in a branch in the place of what lies there from one number up to another; false, if it cannot be there.
func (b *branch) replace(from, to int, part []api.Node) bool {
	if !b.takes(from, to, part) {
		return false
	}
	var fresh []*branch
	if len(part) > 0 {
		fresh = append(fresh, grow(part))
	}
	b.kids = slices.Replace(b.kids, from, to, fresh...)
	b.node.Spans = nil
	return true
}

// takes tells whether a part can be in a branch there: by a small part of the branch's first node, the keys on both sides, and the part between them.
func (b *branch) takes(from, to int, part []api.Node) bool {
	l := []api.Node{{Value: b.node.Value}}
	if from > 0 {
		l = append(l, api.Node{Deep: 1, Key: b.kids[from-1].node.Key})
	}
	for _, n := range part {
		n.Deep++
		l = append(l, n)
	}
	if to < len(b.kids) {
		l = append(l, api.Node{Deep: 1, Key: b.kids[to].node.Key})
	}
	return isPart(l)
}

func rewrite(root *branch, p api.Patch) bool {
	b, _ := root.reach(p.Way)
	if b == nil || b.node.Value.Kind != api.String || !utf8.ValidString(p.Text) {
		return false
	}
	l := []rune(b.node.Text)
	if p.At < 0 || p.At > len(l) || p.Count < 0 || p.Count > len(l)-p.At {
		return false
	}
	b.node.Text = string(l[:p.At]) + p.Text + string(l[p.At+p.Count:])
	b.node.Spans = nil
	return true
}

func mark(root *branch, p api.Patch) bool {
	b, _ := root.reach(p.Way)
	if b == nil || b.node.Value.Kind != api.List && b.node.Value.Kind != api.String {
		return false
	}
	if !fitSpans(p.Spans, b.length()) {
		return false
	}
	b.node.Spans = p.Spans
	return true
}

// fitSpans tells whether a List, or a String, of so many can have these: a String of as many characters, whichever these are, tells it.
func fitSpans(l []api.Span, length int) bool {
	return isPart([]api.Node{{Value: api.Value{Kind: api.String}, Text: strings.Repeat("x", length), Spans: l}})
}

func more(root *branch, p api.Patch) bool {
	b, _ := root.reach(p.Way)
	if b == nil || b == root || len(p.Nodes) != 1 || p.Nodes[0].More < 0 {
		return false
	}
	b.node.Id, b.node.More = p.Nodes[0].Id, p.Nodes[0].More
	return true
}
