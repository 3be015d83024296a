package shell

import (
	"strings"

	"estuary/api"
	"estuary/value"
	"estuary/way"
	"estuary/words"
)

const (
	maxName   = 8
	letters   = "abcdefghijklmnopqrstuvwxyz"
	hexDigits = "0123456789abcdef"
	maxDigits = 2 * len(api.Hash{})
)

// line is what the words of a line say, those of each form in their order.
type line struct {
	in      *session
	asked   []string   // the names of the replicas that must be there
	at      []*station // these
	made    string     // the name of the replica that it makes
	numbers []int64
	ways    [][]api.Step
	texts   []string
	values  []api.Value
	digits  string
	rest    string // the words behind all these
}

// read takes the words behind the first one; false, if they are not as the deed has them.
func (l *line) read(d deed, behind []string) bool {
	if len(behind) < len(d.forms) || len(behind) > len(d.forms) && !d.more {
		return false
	}
	for i, f := range d.forms {
		if !f(l, behind[i]) {
			return false
		}
	}
	l.rest = strings.Join(behind[len(d.forms):], " ")
	return true
}

// find looks for the replicas that must be there. All words are read ahead of it: a wrong word is told first.
func (l *line) find() bool {
	for _, name := range l.asked {
		x, is := l.in.stations[name]
		if !is {
			return false
		}
		l.at = append(l.at, x)
	}
	return true
}

// only tells whether a word has from 1 to so many bytes, all of them of some.
func only(word, some string, most int) bool {
	return word != "" && len(word) <= most && strings.Trim(word, some) == ""
}

// old reads the name of a replica that must be there.
func (l *line) old(word string) bool {
	l.asked = append(l.asked, word)
	return only(word, letters, maxName)
}

// fresh reads the name of a replica that is made.
func (l *line) fresh(word string) bool {
	l.made = word
	return only(word, letters, maxName)
}

func (l *line) number(word string) bool {
	n, is := words.Number(word)
	l.numbers = append(l.numbers, n)
	return is
}

func (l *line) way(word string) bool {
	steps, why, _ := way.Parse(word)
	l.ways = append(l.ways, steps)
	return why == api.OK
}

func (l *line) text(word string) bool {
	s, size, why := value.Unquote(word)
	l.texts = append(l.texts, s)
	return why == api.OK && size == len(word)
}

func (l *line) value(word string) bool {
	v, why := value.Parse(word)
	l.values = append(l.values, v)
	return why == api.OK
}

// bytes reads a value that must be of that kind.
func (l *line) bytes(word string) bool {
	v, why := value.Parse(word)
	l.values = append(l.values, v)
	return why == api.OK && v.Kind == api.Bytes
}

// hash reads the first digits of one. Whether there is one is asked later.
func (l *line) hash(word string) bool {
	l.digits = word
	return only(word, hexDigits, maxDigits)
}

// intAt is a number of the line as an author, an index, a count.
func (l *line) intAt(i int) int { return int(l.numbers[i]) }
