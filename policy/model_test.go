package policy

import (
	"slices"

	"estuary/api"
	"estuary/dag"
)

// model tells of ranks by the chapter's words, one by one. What is valid, and what counts, is kept, as it would be asked for again and again.
type model struct {
	g     *dag.Graph
	valid map[api.Id]bool
}

func newModel(g *dag.Graph) *model {
	return &model{g, map[api.Id]bool{}}
}

// edit is the edit of an Id.
func (m *model) edit(id api.Id) api.Edit {
	u, _ := m.g.Update(id.Hash)
	return u.Edits[id.N-1]
}

// seen: a had seen b.
func (m *model) seen(a, b api.Id) bool {
	return m.g.Before(b.Hash, a.Hash) || a.Hash == b.Hash && b.N < a.N
}

// ids are those of all edits of some updates, but of one update of those alone whose numbers are lower than its.
func (m *model) ids(set []api.Hash, upTo api.Id) []api.Id {
	var l []api.Id
	for _, h := range set {
		u, _ := m.g.Update(h)
		for i := range u.Edits {
			if h != upTo.Hash || i+1 < upTo.N {
				l = append(l, api.Id{Hash: h, N: i + 1})
			}
		}
	}
	return l
}

// rank is an author's in a set of edits.
func (m *model) rank(ids []api.Id, author int) int {
	if author == 1 {
		return 9
	}
	var valid []api.Id
	for _, id := range ids {
		if e := m.edit(id); (e.Act == api.Grant || e.Act == api.Revoke) && e.Who == author && m.isValid(id) {
			valid = append(valid, id)
		}
	}
	rank, any := 9, false
	for _, id := range valid {
		hidden := slices.ContainsFunc(valid, func(o api.Id) bool { return m.seen(o, id) })
		if !hidden {
			n := 0
			if e := m.edit(id); e.Act == api.Grant {
				n = int(e.N)
			}
			rank, any = min(rank, n), true
		}
	}
	if !any {
		return 0
	}
	return rank
}

// before is the past of an update without itself.
func (m *model) before(h api.Hash) []api.Hash {
	return slices.DeleteFunc(m.g.Past([]api.Hash{h}), func(o api.Hash) bool { return o == h })
}

// writers is the rank of an update's author, in its past without itself.
func (m *model) writers(h api.Hash) int {
	u, _ := m.g.Update(h)
	return m.rank(m.ids(m.before(h), api.Id{}), u.Author)
}

func (m *model) counts(h api.Hash) bool { return m.writers(h) > 0 }

// isValid: of a Grant or Revoke.
func (m *model) isValid(id api.Id) bool {
	if v, known := m.valid[id]; known {
		return v
	}
	e := m.edit(id)
	r := m.writers(id.Hash)
	v := r > 0 && e.Who != 1
	if e.Act == api.Grant {
		v = v && r > int(e.N)
	}
	v = v && r > m.rank(m.ids(m.g.Past([]api.Hash{id.Hash}), id), e.Who)
	m.valid[id] = v
	return v
}

// Rank is by the words of P26.1.
func (m *model) Rank(heads []api.Hash, author int) int {
	return m.rank(m.ids(m.g.Past(heads), api.Id{}), author)
}

// Rights are those of the authors up to one.
func (m *model) Rights(heads []api.Hash, most int) []api.Right {
	var l []api.Right
	for author := 1; author <= most; author++ {
		if n := m.Rank(heads, author); n > 0 {
			l = append(l, api.Right{Author: author, Rank: n})
		}
	}
	return l
}

// Void is by the words of P26.2.
func (m *model) Void() []api.Hash {
	var l []api.Hash
	for _, h := range m.g.Order() {
		if !m.counts(h) {
			l = append(l, h)
		}
	}
	return l
}
