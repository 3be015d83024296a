package regs

import "estuary/api"

// stood is an entry as it was, and how many lay ahead of it at its place. Steps keep these and not all that lay there, which could be much where many wrote at one time.
type stood struct {
	at int
	api.Entry
}

// had are the entries that an op had seen, in their order.
func had(l []api.Entry, seen func(api.Id) bool) []stood {
	if seen == nil {
		return nil
	}
	var seenOnes []stood
	for at, e := range l {
		if seen(e.Id) {
			seenOnes = append(seenOnes, stood{at, e})
		}
	}
	return seenOnes
}

// without is a list less those that were taken from it, in its own memory.
func without(l []api.Entry, taken []stood) []api.Entry {
	if len(taken) == 0 {
		return l
	}
	rest := l[:taken[0].at]
	for i, e := range taken {
		end := len(l)
		if i+1 < len(taken) {
			end = taken[i+1].at
		}
		rest = append(rest, l[e.at+1:end]...)
	}
	clear(l[len(rest):]) // or their texts would be kept behind the list's end
	return rest
}

// with is a list with those that were taken from it back where they stood; in new memory, if there are any.
func with(rest []api.Entry, taken []stood) []api.Entry {
	if len(taken) == 0 {
		return rest
	}
	l := make([]api.Entry, 0, len(rest)+len(taken))
	for _, e := range taken {
		between := e.at - len(l)
		l = append(append(l, rest[:between]...), e.Entry)
		rest = rest[between:]
	}
	return append(l, rest...)
}
