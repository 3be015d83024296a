package way

import (
	"strconv"

	"estuary/api"
	"estuary/value"
	"estuary/words"
)

const root = "/"

// Print is a way's text.
func Print(l []api.Step) (string, api.Errno) {
	if why := Right(l); why != api.OK {
		return "", why
	}
	if len(l) == 0 {
		return root, api.OK
	}
	var text []byte
	for _, step := range l {
		text = appendStep(text, step)
	}
	return string(text), api.OK
}

func appendStep(text []byte, step api.Step) []byte {
	switch step.Kind {
	case api.ByIndex:
		text = append(text, '[')
		text = strconv.AppendInt(text, int64(step.N), 10)
		return append(text, ']')
	case api.ByChild:
		text = append(text, '~')
		return strconv.AppendInt(text, int64(step.N), 10)
	}
	text = append(text, '/')
	if plainSize(step.Key) == len(step.Key) {
		return append(text, step.Key...)
	}
	return append(text, value.Quote(step.Key)...)
}

// Parse reads a way's text; the place of the fault, where there is one.
func Parse(s string) ([]api.Step, api.Errno, int) {
	l, at, err := read(s)
	if err != nil {
		return nil, number(err), at
	}
	return l, api.OK, 0
}

// read is the steps that a text says, one behind the other; where it is wrong, and how.
func read(s string) (l []api.Step, at int, err error) {
	var step api.Step
	if len(s) > api.MaxWay {
		return nil, 0, errLong
	}
	if s == root {
		return nil, 0, nil
	}
next:
	step = api.Step{}
	if at == len(s) || len(l) == api.MaxSteps {
		return nil, at, errText
	}
	switch s[at] {
	case '/':
		goto key
	case '[':
		goto index
	case '~':
		goto child
	}
	return nil, at, errText
key:
	step.Kind = api.ByKey
	step.Key, at, err = readKey(s, at+1)
	goto behind
index:
	step.Kind = api.ByIndex
	step.N, at, err = readIndex(s, at+1)
	goto behind
child:
	step.Kind = api.ByChild
	step.N, at, err = readNumber(s, at+1)
behind:
	if err != nil {
		return nil, at, err
	}
	l = append(l, step)
	if at < len(s) {
		goto next
	}
	return l, at, nil
}

// readKey reads the key that stands at a place, and tells the place behind it; or that of its fault.
func readKey(s string, at int) (string, int, error) {
	if at < len(s) && s[at] == '"' {
		return readQuoted(s, at)
	}
	size := plainSize(s[at:])
	if size == 0 {
		return "", at, errText
	}
	if size > api.MaxKey {
		return "", at + api.MaxKey, errText
	}
	return s[at : at+size], at + size, nil
}

// readQuoted reads a key in quotes. One that could do without them has another text.
func readQuoted(s string, at int) (string, int, error) {
	key, size, why := value.Unquote(s[at:])
	if why != api.OK {
		return "", at + size, errText
	}
	if !words.Key(key) || plainSize(key) == len(key) {
		return "", at, errText
	}
	return key, at + size, nil
}

// readIndex reads a number and the bracket behind it.
func readIndex(s string, at int) (int, int, error) {
	n, at, err := readNumber(s, at)
	if err != nil {
		return 0, at, err
	}
	if at == len(s) || s[at] != ']' {
		return 0, at, errText
	}
	return n, at + 1, nil
}

// readNumber reads the decimal that stands at a place, and tells the place behind it; or that of its fault.
func readNumber(s string, at int) (int, int, error) {
	n, from := 0, at
	for ; at < len(s) && s[at] >= '0' && s[at] <= '9'; at++ {
		n = n*10 + int(s[at]-'0')
		if n > maxNumber || at > from && s[from] == '0' {
			return 0, at, errText
		}
	}
	if at == from {
		return 0, at, errText
	}
	return n, at, nil
}

// plainSize is with how many bytes a text begins that need no quotes in a way.
func plainSize(s string) int {
	for at := range len(s) {
		if !plain(s[at]) {
			return at
		}
	}
	return len(s)
}

func plain(c byte) bool {
	return c >= 'a' && c <= 'z' || c >= 'A' && c <= 'Z' || c >= '0' && c <= '9' || c == '_' || c == '-'
}
