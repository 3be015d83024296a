package marks

import (
	"slices"

	"estuary/api"
	"estuary/value"
)

// pieces are what the edges of some marks cut a sequence into: within a piece the same marks cover all.
type pieces struct {
	cuts  []int // a piece goes from one of these to the next
	holds []int // which of the marks holds for each piece; none, where none has been found
	next  []int // from each piece on the next one for which none has been found, or one on the way to that
}

const none = -1

// runs are where marks of one name hold, given what each covers in the order in which they were added.
func runs(covers []api.Span) []api.Span {
	p := cutUp(covers)
	p.find(covers)
	var l []api.Span
	for at, i := range p.holds {
		if i == none || covers[i].Value.Kind == api.Null {
			continue
		}
		run := covers[i]
		run.From, run.To = p.cuts[at], p.cuts[at+1]
		if last := len(l) - 1; last >= 0 && goesOn(l[last], run) {
			l[last].To = run.To
		} else {
			l = append(l, run)
		}
	}
	return l
}

// goesOn tells whether a run and what comes behind it are one.
func goesOn(a, b api.Span) bool {
	return a.To == b.From && value.Compare(a.Value, b.Value) == 0
}

func cutUp(covers []api.Span) *pieces {
	p := &pieces{}
	for _, c := range covers {
		p.cuts = append(p.cuts, c.From, c.To)
	}
	slices.Sort(p.cuts)
	p.cuts = slices.Compact(p.cuts)
	for at := range p.cuts {
		p.next = append(p.next, at)
	}
	p.holds = slices.Repeat([]int{none}, len(p.cuts)-1)
	return p
}

// find finds the marks that hold, from the last one down: each where no later one does. So each piece is looked at once, however many cover it.
func (p *pieces) find(covers []api.Span) {
	open := len(p.holds)
down:
	for i, c := range slices.Backward(covers) {
		at, _ := slices.BinarySearch(p.cuts, c.From)
		end, _ := slices.BinarySearch(p.cuts, c.To)
		for at = p.open(at); at < end; at = p.open(at) {
			p.holds[at] = i
			p.next[at] = at + 1
			if open--; open == 0 {
				break down
			}
		}
	}
}

// open is the first piece, from one on, for which none has been found; behind all of them, if there is none.
func (p *pieces) open(at int) int {
	for p.next[at] != at {
		p.next[at] = p.next[p.next[at]]
		at = p.next[at]
	}
	return at
}
