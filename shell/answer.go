package shell

import (
	"strconv"
	"strings"

	"estuary/api"
	"estuary/digest"
)

const (
	done      = "ok"
	none      = "none"
	shortSize = 12 // digits of a hash that are told
)

// say is a line of words.
func say(l ...string) string { return strings.Join(l, " ") + lineEnd }

func errno(e api.Errno) string { return say("errno", strconv.Itoa(int(e))) }

// list is a line for each of some, or one that says that there is none.
func list[T any](l []T, show func(T) string) string {
	if len(l) == 0 {
		return say(none)
	}
	var told strings.Builder
	for _, x := range l {
		told.WriteString(say(show(x)))
	}
	return told.String()
}

func short(h api.Hash) string { return digest.Short(h, shortSize) }

func hashes(l []api.Hash) string { return list(l, short) }

func receipt(r api.Receipt) string {
	if r.Why != api.OK {
		return errno(r.Why)
	}
	return say(done, short(r.Id), strconv.Itoa(len(r.Taken)), strconv.Itoa(r.Steps))
}

func credit(c api.Credit) string {
	op := short(c.Id.Hash) + "#" + strconv.Itoa(c.Id.N)
	return strconv.Itoa(c.From) + "-" + strconv.Itoa(c.To) + " " + op + " " + strconv.Itoa(c.Author)
}

func right(r api.Right) string { return strconv.Itoa(r.Author) + " " + strconv.Itoa(r.Rank) }

func fork(f api.Fork) string {
	told := strconv.Itoa(f.Author) + " " + strconv.Itoa(f.Seq)
	for _, h := range f.Ids {
		told += " " + short(h)
	}
	return told
}
