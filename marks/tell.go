package marks

import (
	"cmp"
	"slices"
	"strings"

	"estuary/api"
	"estuary/seq"
)

// Over are the marks that hold for an element of a sequence.
func (m *Marks) Over(s *seq.Seq, id api.Id) []api.Span {
	if m == nil || !s.Has(id) {
		return nil
	}
	rank := s.Rank(id)
	from, to := indexAt(s, rank), indexAt(s, rank+1)
	var l []api.Span
	for _, k := range m.covering(s, rank) {
		if k.value.Kind != api.Null {
			l = append(l, api.Span{From: from, To: to, Name: k.name, Value: k.value})
		}
	}
	sortSpans(l)
	return l
}

// covering are, of each name, the last one of the marks that cover the element of a rank.
func (m *Marks) covering(s *seq.Seq, rank int) []mark {
	var l []mark
	found := map[string]struct{}{}
	for _, k := range slices.Backward(m.list) {
		if _, ok := found[k.name]; ok {
			continue
		}
		if from, to := k.reach(s); from <= rank && rank < to {
			found[k.name] = struct{}{}
			l = append(l, k)
		}
	}
	return l
}

// Spans are the runs of a sequence's shown elements that have a mark.
func (m *Marks) Spans(s *seq.Seq) []api.Span {
	if m == nil {
		return nil
	}
	var l []api.Span
	for _, covers := range m.covers(s) {
		l = append(l, runs(covers)...)
	}
	sortSpans(l)
	return l
}

// covers are what the marks cover of a sequence's shown elements, by their names, in the order in which they were added. Those that cover none are left out.
func (m *Marks) covers(s *seq.Seq) map[string][]api.Span {
	byName := map[string][]api.Span{}
	for _, k := range m.list {
		from, to := k.reach(s)
		c := api.Span{From: indexAt(s, from), To: indexAt(s, to), Name: k.name, Value: k.value}
		if c.From < c.To {
			byName[k.name] = append(byName[k.name], c)
		}
	}
	return byName
}

// indexAt is how many shown elements stand ahead of a rank.
func indexAt(s *seq.Seq, rank int) int {
	if id, ok := s.At(rank); ok {
		return s.Index(id)
	}
	return s.Shown()
}

func sortSpans(l []api.Span) {
	slices.SortFunc(l, func(a, b api.Span) int {
		return cmp.Or(cmp.Compare(a.From, b.From), cmp.Compare(a.To, b.To), strings.Compare(a.Name, b.Name))
	})
}
