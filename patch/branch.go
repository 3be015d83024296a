package patch

import (
	"slices"
	"strings"
	"unicode/utf8"

	"estuary/api"
	"estuary/value"
)

const noStep api.StepKind = 0

// branch is a node with what lies in it, so that what a patch changes is found, and changed, without the other nodes. (The Deep of its node tells nothing.)
type branch struct {
	node api.Node
	kids []*branch
}

// grow is a part as a branch.
func grow(l []api.Node) *branch {
	var newest []*branch // of each Deep up to the last node's the last one
	for _, n := range l {
		b := &branch{node: n}
		if n.Deep > 0 {
			in := newest[n.Deep-1]
			in.kids = append(in.kids, b)
		}
		newest = append(newest[:n.Deep], b)
	}
	return newest[0]
}

// nodes is a branch as a part, in new memory. No branch goes into the next by itself, for they may be very deep.
func (b *branch) nodes() []api.Node {
	type twig struct {
		*branch
		deep int
	}
	var l []api.Node
	for ahead := []twig{{b, 0}}; len(ahead) > 0; { // the next one last
		t := ahead[len(ahead)-1]
		ahead = ahead[:len(ahead)-1]
		n := t.node
		n.Deep = t.deep
		n.Spans = slices.Clone(n.Spans)
		l = append(l, n)
		for _, kid := range slices.Backward(t.kids) {
			ahead = append(ahead, twig{kid, t.deep + 1})
		}
	}
	return l
}

// leads is the steps that lead from a node of a kind to which a step of another one led: a scalar to which one leads by ByChild is an outline's node.
func leads(k api.Kind, by api.StepKind) api.StepKind {
	switch {
	case k == api.Map:
		return api.ByKey
	case k == api.List:
		return api.ByIndex
	case k == api.Outline, value.Scalar(k) && by == api.ByChild:
		return api.ByChild
	}
	return noStep
}

// reach is the branch to which a way leads from the root, and the steps that lead from that; nil, if there is none.
func (b *branch) reach(way []api.Step) (*branch, api.StepKind) {
	next := api.ByKey
	for _, step := range way {
		at, there := b.find(step)
		if step.Kind != next || !there {
			return nil, noStep
		}
		b = b.kids[at]
		next = leads(b.node.Value.Kind, step.Kind)
	}
	return b, next
}

// find is the number among what lies in a branch of that to which a step leads, or would lead, and whether there is such a one.
func (b *branch) find(step api.Step) (int, bool) {
	if step.Kind != api.ByKey {
		return step.N, step.N < len(b.kids)
	}
	return slices.BinarySearchFunc(b.kids, step.Key, func(kid *branch, key string) int { return strings.Compare(kid.node.Key, key) })
}

// length is how many there are in a branch that can have marks.
func (b *branch) length() int {
	if b.node.Value.Kind == api.List {
		return len(b.kids)
	}
	return utf8.RuneCountInString(b.node.Text)
}
