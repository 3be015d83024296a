package shell

import (
	"testing"

	"estuary/api"
	"estuary/bloom"
)

// two is an update and one behind it, as words, with the filter of both.
type two struct {
	ids    []api.Hash
	words  []string
	filter *bloom.Filter
}

// twosOf are many such of an author.
func twosOf(t *testing.T, author int) []two {
	t.Helper()
	var l []two
	for time := range 600 {
		first, _, h := hexOf(t, api.Update{Author: author, Seq: 1, Time: int64(time)})
		second, _, i := hexOf(t, api.Update{Author: author, Seq: 2, Parents: []api.Hash{h}})
		ids := []api.Hash{h, i}
		l = append(l, two{ids, []string{first, second}, bloom.Of(ids)})
	}
	return l
}

// hidden are two of them, of which each one's filter hides the other's first update, and not its second one.
func hidden(t *testing.T) (two, two) {
	t.Helper()
	theirs := twosOf(t, 2)
	for _, x := range twosOf(t, 1) {
		for _, y := range theirs {
			if x.filter.Has(y.ids[0]) && y.filter.Has(x.ids[0]) && !x.filter.Has(y.ids[1]) && !y.filter.Has(x.ids[1]) {
				return x, y
			}
		}
	}
	t.Fatal("no two that hide one another")
	return two{}, two{}
}

// P28.1: a talk of two that have no room for what waits, and so never become even, has so many messages and no more
func TestEndlessTalk(t *testing.T) {
	x, y := hidden(t)
	talks(t,
		"new a 1 1 0", "ok", "new b 1 1 0", "ok",
		"take a "+x.words[0], "ok * 1 1", "take a "+x.words[1], "ok * 1 1",
		"take b "+y.words[0], "ok * 1 1", "take b "+y.words[1], "ok * 1 1",
		"talk a b", "talked 10000",
		"send a b", "sent 2", "send b a", "sent 2", "talk a b", "talked 2", "diff a b", "none",
	)
}
