package regs

import (
	"slices"

	"estuary/api"
)

// stood is an entry as it was, and how many lay ahead of it at its place. Steps keep these and not all that lay there, which could be much where many wrote at one time.
type stood struct {
	at int
	api.Entry
}

// had are the entries that an op had seen, in their order.
func had(l []api.Entry, seen func(api.Id) bool) []stood {
	if seen == nil {
		return nil
	}
	var seenOnes []stood
	for at, e := range l {
		if seen(e.Id) {
			seenOnes = append(seenOnes, stood{at, e})
		}
	}
	return seenOnes
}

// cut is the first n of a list, without room behind them: what is put there goes into new memory, and not over what a Fork may have.
func cut(l []api.Entry, n int) []api.Entry {
	return l[:n:n]
}

// without is a list less those that are taken from it.
func without(l []api.Entry, taken []stood) []api.Entry {
	if len(taken) == 0 {
		return l
	}
	rest := make([]api.Entry, 0, len(l)-len(taken))
	from := 0
	for _, e := range taken {
		rest = append(rest, l[from:e.at]...)
		from = e.at + 1
	}
	return append(rest, l[from:]...)
}

// changed is a list in which some, which stand there as they were or have been changed since, have another value, made out of what they were.
func changed(l []api.Entry, some []stood, another func(was api.Value) api.Value) []api.Entry {
	if len(some) == 0 {
		return l
	}
	l = slices.Clone(l)
	for _, e := range some {
		l[e.at].Value = another(e.Value)
	}
	return l
}

// with is a list with those that were taken from it back where they stood.
func with(rest []api.Entry, taken []stood) []api.Entry {
	if len(taken) == 0 {
		return rest
	}
	l := make([]api.Entry, 0, len(rest)+len(taken))
	for _, e := range taken {
		between := e.at - len(l)
		l = append(append(l, rest[:between]...), e.Entry)
		rest = rest[between:]
	}
	return append(l, rest...)
}
