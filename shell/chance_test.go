package shell

import (
	"fmt"
	"math/rand"
	"strings"
	"testing"

	"estuary/api"
	"estuary/digest"
	"estuary/update"
	"estuary/value"
)

func pick[T any](r *rand.Rand, l ...T) T { return l[r.Intn(len(l))] }

// writer makes lines by chance, that fit what lies in the documents more often than not.
type writer struct {
	r   *rand.Rand
	ids []string   // of updates that there may be
	hex []string   // of updates that nobody has
	all []api.Hash // these

	undone string // the last line that undoes, if what it did was not done again
}

// begin is lines with which replicas have something of each kind.
func begin() []string {
	return strings.Split(`new a 2 2 4
put a 1 /m {}
put a 1 /l []
put a 1 /t ''
put a 1 /o <>
put a 1 /n +5
type a 1 /t 0 0 "some text"
ins a 1 /l 0 1
grow a 1 /o "p" "x"
grow a 1 /o "q" "y"
edit a 1 grant 2 3
new b 1 0 1
send a b
new c 3 1 0`, "\n")
}

func (w *writer) number() string { return pick(w.r, "0", "0", "0", "1", "1", "2", "3", "-1", "7") }

func (w *writer) value() string {
	return pick(w.r, "1", "-7", "null", "true", "2.5", `"b c"`, `"a"`, `"\n\"\\"`, `x"00ff"`, "@5", "+3", "{}", "[]", "''", "<>")
}

func (w *writer) text() string {
	return pick(w.r, `""`, `"a"`, `"p q"`, `"some other text"`, `"\""`, `"ä"`, `"s\\"`, `"\n"`)
}

func (w *writer) way() string {
	return pick(w.r, "/", "/a", "/m", "/m/k", `/m/"b c"`, "/l", "/l[0]", "/l[1]", "/t", "/t[0]", "/o", "/o~0", "/o~1", "/o~0~0", "/n", "/x/y")
}

// hexOf is an update's bytes as a word: one that may wait, one that follows, or one that is none.
func (w *writer) hexOf() string {
	u := api.Update{Author: 1 + w.r.Intn(5), Seq: 1 + w.r.Intn(2), Time: int64(w.r.Intn(50)), Edits: []api.Edit{{Act: api.Put, Key: "a", Value: api.Value{Kind: api.Int, N: 1}}}}
	if len(w.all) > 0 && w.r.Intn(2) == 0 {
		u.Parents = []api.Hash{pick(w.r, w.all...)}
	}
	b, _ := update.Encode(u)
	if len(w.hex) > 0 && w.r.Intn(3) == 0 {
		return pick(w.r, w.hex...)
	}
	if w.r.Intn(8) == 0 {
		b = b[1:]
	}
	word := value.Print(api.Value{Kind: api.Bytes, S: string(b)})
	w.hex = append(w.hex, word)
	w.all = append(w.all, digest.Sum(b))
	return word
}

func (w *writer) edit() string {
	return pick(w.r, `put . . "a" 1`, `delete . . "a"`, `add . . "n" 2`, "grant 2 3", "grant 3 1", "revoke 2", "insert . . 1", "prune . #1", "put", "", "hello", `put  .   . "a"  "b  c"`)
}

// words are right ones for a form.
func (w *writer) words(form string) string {
	switch form {
	case "R", "Q", "N":
		return pick(w.r, "a", "a", "a", "b", "b", "c", "c")
	case "number":
		return w.number()
	case "D":
		return pick(w.r, append(w.ids, "0", "a", "f", "00")...)
	case "way":
		return w.way()
	case "text":
		return w.text()
	case "hex":
		return w.hexOf()
	case "..":
		return w.edit()
	}
	return w.value()
}

// fits are the ways at which a line with that first word may find what it acts on.
func fits(first string) []string {
	switch first {
	case "type", "rewrite", "mark":
		return strings.Fields("/t /t /t /l")
	case "ins":
		return strings.Fields("/l /l /t /m")
	case "add":
		return strings.Fields("/n /n /l[0]")
	case "grow":
		return strings.Fields("/o /o /o~0 /t")
	case "move", "prune":
		return strings.Fields("/o~0 /o~1 /o~0~0 /o")
	}
	return nil
}

// word is one of a form, for the place i behind the first word.
func (w *writer) word(first, form string, i int) string {
	switch {
	case first == "new" && i > 0:
		return pick(w.r, "1", "2", "1", "2", "4", "0")
	case first == "mark" && form == "number" && i > 1:
		return pick(w.r, "0", "1", "2", "3")
	case form == "number" && i == 1 && w.r.Intn(30) > 0:
		return pick(w.r, "1", "1", "1", "2", "3")
	case form == "way" && len(fits(first)) > 0 && w.r.Intn(8) > 0:
		return pick(w.r, fits(first)...)
	case first == "mark" && form == "text", first == "grow" && form == "text", first == "move" && form == "text":
		return pick(w.r, `"a"`, `"b"`, `"p q"`, `""`)
	}
	return w.words(form)
}

// line is any line; of some the words are not as they must be.
func (w *writer) line() string {
	if w.r.Intn(8) == 0 {
		return pick(w.r, begin()[1:11]...)
	}
	if again, is := strings.CutPrefix(w.undone, "undo"); is && w.r.Intn(2) == 0 {
		w.undone = ""
		return "redo" + again
	}
	first := pick(w.r, lineWords()...)
	l := []string{first}
	for i, f := range strings.Fields(table()[first]) {
		l = append(l, w.word(first, f, i))
	}
	if w.r.Intn(12) == 0 {
		l = w.spoil(l)
	}
	text := strings.Join(l, pick(w.r, " ", " ", "  "))
	if first == "undo" {
		w.undone = text
	}
	return text
}

// spoil makes another line of a line's words.
func (w *writer) spoil(l []string) []string {
	i := w.r.Intn(len(l))
	switch w.r.Intn(4) {
	case 0:
		l = append(l[:i:i], l[i+1:]...)
	case 1:
		l = append(l, w.words(pick(w.r, "R", "number", "text")))
	default:
		l[i] = pick(w.r, "d", "A", "ab1", "abcdefghi", "01", "-0", "+1", "99999999999999999999", "1.0", "/a/", "a/b", `"a`, "x", `"a"b`, "#", "''", "{} ", `x"0"`, "g0", "\t", "\r", `a"b c"`, `"\`)
	}
	return l
}

// lineWords are the first words, those that write more often than others.
func lineWords() []string {
	return strings.Fields("new fork edit edit edit commit commit take take put put put del del add ins ins type type rewrite rewrite mark mark grow grow move move prune undo undo undo redo redo redo send send talk text full read heads all waiting missing log at blame diff rights void allowed forks pack")
}

// script is so many lines behind the first ones.
func (w *writer) script(size int) []string {
	l := begin()
	for range size {
		l = append(l, w.line())
	}
	return l
}

// learn keeps the digits of ids that were told.
func (w *writer) learn(answer string) {
	for _, x := range strings.Fields(answer) {
		if len(x) == 12 && digitsForm.MatchString(x) {
			w.ids = append(w.ids, x[:1+w.r.Intn(12)])
		}
	}
}

// P28.1: any lines, held against the chapter's words
func TestAnyLines(t *testing.T) {
	fine, refused := map[string]int{}, map[string]int{}
	for seed := range int64(200) {
		w := &writer{r: rand.New(rand.NewSource(seed))}
		s, m := &session{deeds: deeds(), stations: map[string]*station{}}, newMirror()
		var script, answers strings.Builder
		do := func(text string) {
			got, want := s.do(text), m.do(text)
			if got != want {
				t.Fatalf("seed %d: %s: %s, not %s", seed, text, got, want)
			}
			w.learn(got)
			script.WriteString(text + "\n")
			answers.WriteString(got)
			first, _, _ := strings.Cut(text, " ")
			if strings.HasPrefix(got, "errno") {
				refused[first]++
			} else {
				fine[first]++
			}
		}
		for _, text := range begin() {
			do(text)
		}
		for range 60 {
			do(w.line())
		}
		if got := Run(script.String()); got != answers.String() {
			t.Fatalf("seed %d: Run is not the answers of its lines", seed)
		}
		if got := Run(strings.TrimSuffix(script.String(), "\n")); got != answers.String() {
			t.Fatalf("seed %d: the last line's end counts", seed)
		}
	}
	for first := range table() {
		if fine[first] < 20 || refused[first] < 3 {
			t.Errorf("%s: %d were done, %d refused", first, fine[first], refused[first])
		}
	}
}

// P28.2
func TestOneBehindAnother(t *testing.T) {
	for seed := range int64(60) {
		w := &writer{r: rand.New(rand.NewSource(seed))}
		l := w.script(30)
		n := w.r.Intn(len(l) + 1)
		front := strings.Join(append(l[:n:n], ""), "\n")
		whole := front + strings.Join(l[n:], "\n")
		if a, b := Run(front), Run(whole); !strings.HasPrefix(b, a) {
			t.Fatalf("seed %d: %q does not begin with %q", seed, b, a)
		}
	}
}

// P28.3
func TestTellingChangesNothing(t *testing.T) {
	telling := strings.Fields("text full read heads all waiting missing log at blame diff rights void allowed forks pack #")
	for seed := range int64(60) {
		w := &writer{r: rand.New(rand.NewSource(seed))}
		s, plain := &session{deeds: deeds(), stations: map[string]*station{}}, &session{deeds: deeds(), stations: map[string]*station{}}
		for _, text := range w.script(40) {
			if a, b := plain.do(text), s.do(text); a != b {
				t.Fatalf("seed %d: %s: %s, not %s", seed, text, b, a)
			}
			first := pick(w.r, telling...)
			l := []string{first}
			for _, f := range strings.Fields(table()[first]) {
				l = append(l, w.words(f))
			}
			w.learn(s.do(strings.Join(l, " ")))
		}
	}
}

// P28.4
func TestTalkMakesEven(t *testing.T) {
	apart := 0
	for seed := range int64(80) {
		w := &writer{r: rand.New(rand.NewSource(seed))}
		s := &session{deeds: deeds(), stations: map[string]*station{}}
		for i, text := range w.script(30) {
			if strings.HasPrefix(text, "new") {
				text = fmt.Sprintf("new %c 2 2 %d", 'a'+i%3, api.MaxOrphans) // room for all: nothing is dropped
			}
			s.do(text)
		}
		for range 4 {
			x, y := pick(w.r, "a", "b", "c"), pick(w.r, "a", "b", "c")
			if s.do("text "+x) != s.do("text "+y) {
				apart++
			}
			var n int
			if _, err := fmt.Sscanf(s.do("talk "+x+" "+y), "talked %d\n", &n); err != nil || n < 2 {
				t.Fatalf("seed %d: %d messages", seed, n)
			}
			if a, b := s.do("text "+x), s.do("text "+y); a != b {
				t.Fatalf("seed %d: %s shows %s, and %s %s", seed, x, a, y, b)
			}
			if text := w.line(); !strings.HasPrefix(text, "new") {
				s.do(text)
			}
		}
	}
	if apart < 50 {
		t.Errorf("only %d were not even ahead", apart)
	}
}
