package tree

import (
	"cmp"
	"slices"
	"strings"

	"estuary/api"
	"estuary/digest"
)

// Len is how many nodes there are, pruned ones too.
func (t *Tree) Len() int {
	if t == nil {
		return 0
	}
	return len(t.nodes)
}

// Live tells whether a node comes up to the top.
func (t *Tree) Live(id api.Id) bool {
	if t == nil || !t.has(id) {
		return false
	}
	_, pruned := t.climb(id)
	return !pruned
}

// Deep is under how many nodes one lies.
func (t *Tree) Deep(id api.Id) int {
	if t == nil || !t.has(id) {
		return -1
	}
	deep, _ := t.climb(id)
	return deep
}

// climb goes up from a node: through how many others, and whether it ends at a pruned one.
func (t *Tree) climb(id api.Id) (int, bool) {
	deep, n := 0, t.nodes[id]
	for !n.pruned && n.under != (api.Id{}) {
		n = t.nodes[n.under]
		deep++
	}
	return deep, n.pruned
}

// Under is what a node is under, and its position.
func (t *Tree) Under(id api.Id) (api.Id, string, bool) {
	if t == nil || !t.has(id) {
		return api.Id{}, "", false
	}
	n := t.nodes[id]
	return n.under, n.key, !n.pruned
}

// Kids are the nodes under one (of the zero Id: at the top), by their positions.
func (t *Tree) Kids(id api.Id) []api.Id {
	if t == nil {
		return nil
	}
	row := t.row(id)
	l := make([]api.Id, len(row))
	for i, k := range row {
		l[i] = k.id
	}
	return l
}

// kid is a node of a row, with the position by which it is sorted: that is looked up once, and not each time that two are compared.
type kid struct {
	id  api.Id
	key string
}

// row is who is under one, sorted.
func (t *Tree) row(id api.Id) []kid {
	l := make([]kid, 0, len(t.rows[id]))
	for k := range t.rows[id] {
		l = append(l, kid{id: k, key: t.nodes[k].key})
	}
	slices.SortFunc(l, func(a, b kid) int {
		if c := strings.Compare(a.key, b.key); c != 0 {
			return c
		}
		return compare(a.id, b.id)
	})
	return l
}

// compare is the order of Ids.
func compare(a, b api.Id) int {
	if c := digest.Compare(a.Hash, b.Hash); c != 0 {
		return c
	}
	return cmp.Compare(a.N, b.N)
}

// Walk are all that live, each ahead of those under it.
func (t *Tree) Walk() []api.Id {
	if t == nil {
		return nil
	}
	var l []api.Id
	ahead := t.Kids(api.Id{}) // the next one last
	slices.Reverse(ahead)
	for len(ahead) > 0 {
		id := ahead[len(ahead)-1]
		ahead = ahead[:len(ahead)-1]
		l = append(l, id)
		kids := t.Kids(id)
		slices.Reverse(kids)
		ahead = append(ahead, kids...)
	}
	return l
}
