package shell

import (
	"fmt"
	"regexp"
	"slices"
	"strconv"
	"strings"

	"estuary/api"
	"estuary/dag"
	"estuary/digest"
	"estuary/draft"
	"estuary/edit"
	"estuary/history"
	"estuary/keys"
	"estuary/pack"
	"estuary/parley"
	"estuary/patch"
	"estuary/policy"
	"estuary/render"
	"estuary/replica"
	"estuary/undo"
	"estuary/update"
	"estuary/value"
	"estuary/way"
)

// mirror does lines by the chapter's words, by the layers' calls alone.
type mirror struct {
	replicas map[string]*replica.Replica
	options  map[string]api.Options
	stacks   map[string]map[int]*undo.Stack
}

func newMirror() *mirror {
	return &mirror{map[string]*replica.Replica{}, map[string]api.Options{}, map[string]map[int]*undo.Stack{}}
}

// table is the words of each line: R and Q must be there, N is new, D is a hash's digits, the others as the chapter's table has them.
func table() map[string]string {
	return map[string]string{
		"new": "N number number number", "fork": "R N", "edit": "R number ..", "commit": "R number number text",
		"take": "R hex", "put": "R number way value", "del": "R number way", "add": "R number way number",
		"ins": "R number way number value", "type": "R number way number number text", "rewrite": "R number way text",
		"mark": "R number way number number text value", "grow": "R number way text value", "move": "R number way way text",
		"prune": "R number way", "undo": "R number", "redo": "R number", "send": "R Q", "talk": "R Q", "text": "R", "full": "R",
		"read": "R way", "heads": "R", "all": "R", "waiting": "R", "missing": "R", "log": "R", "at": "R D", "blame": "R way",
		"diff": "R Q", "rights": "R", "void": "R", "allowed": "R", "forks": "R", "pack": "R",
	}
}

// wordAt matches a word: pieces without blanks and quotes, and what stands between quotes.
var wordAt = regexp.MustCompile(`(?s)(?:[^ "]|"(?:[^"\\]|\\.)*(?:"|\\?$))+`)

var (
	nameForm   = regexp.MustCompile(`^[a-z]{1,8}$`)
	numberForm = regexp.MustCompile(`^(?:0|-?[1-9][0-9]*)$`)
	digitsForm = regexp.MustCompile(`^[0-9a-f]{1,64}$`)
)

func isForm(form, word string) bool {
	switch form {
	case "R", "Q", "N":
		return nameForm.MatchString(word)
	case "number":
		_, err := strconv.ParseInt(word, 10, 64)
		return err == nil && numberForm.MatchString(word)
	case "D":
		return digitsForm.MatchString(word)
	case "way":
		_, why, _ := way.Parse(word)
		return why == api.OK
	case "text":
		s, _, why := value.Unquote(word)
		return why == api.OK && value.Quote(s) == word
	}
	v, why := value.Parse(word)
	return why == api.OK && (form == "value" || v.Kind == api.Bytes)
}

func wrong(e api.Errno) string { return fmt.Sprintf("errno %d\n", e) }

// do is the answer of a line.
func (m *mirror) do(text string) string {
	l := wordAt.FindAllString(text, -1)
	if len(l) == 0 || l[0][0] == '#' {
		return ""
	}
	forms := strings.Fields(table()[l[0]])
	if n := len(forms) - 1; n > 0 && forms[n] == ".." {
		forms = forms[:n]
	} else if len(l)-1 > len(forms) {
		return wrong(api.ErrWord)
	}
	if len(forms) == 0 || len(l)-1 < len(forms) {
		return wrong(api.ErrWord)
	}
	for i, f := range forms {
		if !isForm(f, l[i+1]) {
			return wrong(api.ErrWord)
		}
	}
	for i, f := range forms {
		if (f == "R" || f == "Q") && m.replicas[l[i+1]] == nil {
			return wrong(api.ErrNode)
		}
	}
	if s, is := m.writes(l); is {
		return s
	}
	if s, is := m.drafts(l); is {
		return s
	}
	if s, is := m.tells(l); is {
		return s
	}
	return m.looksBack(l)
}

func number(word string) int64 {
	n, _ := strconv.ParseInt(word, 10, 64)
	return n
}

func index(word string) int { return int(number(word)) }

func told(x api.Receipt) string {
	if x.Why != api.OK {
		return wrong(x.Why)
	}
	return fmt.Sprintf("ok %.12s %d %d\n", digest.Hex(x.Id), len(x.Taken), x.Steps)
}

func (m *mirror) stack(name string, author int) *undo.Stack {
	if m.stacks[name][author] == nil {
		if s, why := undo.New(author); why == api.OK {
			m.stacks[name][author] = s
		}
	}
	return m.stacks[name][author]
}

func (m *mirror) commits(name, author string, time int64, note string, l []api.Edit) string {
	r := m.replicas[name]
	x := r.Commit(index(author), time, note, l)
	if x.Why == api.OK {
		m.stack(name, index(author)).Note(r.Graph(), x.Id)
	}
	return told(x)
}

func (m *mirror) writes(l []string) (string, bool) {
	r := m.replicas[l[1]]
	switch l[0] {
	case "new":
		o := api.Options{Every: index(l[2]), Keep: index(l[3]), Orphans: index(l[4])}
		r, why := replica.New(o)
		if why != api.OK {
			return wrong(why), true
		}
		m.replicas[l[1]], m.options[l[1]], m.stacks[l[1]] = r, o, map[int]*undo.Stack{}
		return "ok\n", true
	case "fork":
		m.replicas[l[2]], m.options[l[2]], m.stacks[l[2]] = r.Fork(), m.options[l[1]], map[int]*undo.Stack{}
		return "ok\n", true
	case "edit":
		e, why, _ := edit.Parse(strings.Join(l[3:], " "))
		if why != api.OK {
			return wrong(why), true
		}
		return m.commits(l[1], l[2], 0, "", []api.Edit{e}), true
	case "commit":
		note, _, _ := value.Unquote(l[4])
		return m.commits(l[1], l[2], number(l[3]), note, nil), true
	case "take":
		v, _ := value.Parse(l[2])
		return told(r.Receive([]byte(v.S))), true
	case "undo", "redo":
		return m.turns(l), true
	case "send":
		n := 0
		for _, b := range r.Export() {
			if m.replicas[l[2]].Receive(b).Why == api.OK {
				n++
			}
		}
		return fmt.Sprintf("sent %d\n", n), true
	case "talk":
		return fmt.Sprintf("talked %d\n", talked(r, m.replicas[l[2]])), true
	}
	return "", false
}

func talked(a, b *replica.Replica) int {
	peers := []*parley.Peer{parley.New(a), parley.New(b)}
	count, last := 0, 0 // last: the turn at which something was told last
	for turn := 1; turn-last <= 2 && count < 10000; turn++ {
		if x, is := peers[(turn-1)%2].Tell(); is {
			peers[turn%2].Hear(x)
			count++
			last = turn
		}
	}
	return count
}

func (m *mirror) turns(l []string) string {
	r, author := m.replicas[l[1]], index(l[2])
	if _, why := undo.New(author); why != api.OK {
		return wrong(why)
	}
	s := m.stack(l[1], author)
	ask := s.Undo
	if l[0] == "redo" {
		ask = s.Redo
	}
	edits, why := ask(r.Graph())
	if why != api.OK {
		return wrong(why)
	}
	x := r.Commit(author, 0, "", edits)
	if x.Why == api.OK {
		s.Done(r.Graph(), x.Id)
	}
	return told(x)
}

func (m *mirror) drafts(l []string) (string, bool) {
	if !slices.Contains(strings.Fields("put del add ins type rewrite mark grow move prune"), l[0]) {
		return "", false
	}
	d, why := draft.New(m.replicas[l[1]].Graph(), index(l[2]))
	if why != api.OK {
		return wrong(why), true
	}
	at, _, _ := way.Parse(l[3])
	last := l[len(l)-1]
	v, _ := value.Parse(last)
	text := func(word string) string {
		s, _, _ := value.Unquote(word)
		return s
	}
	switch l[0] {
	case "put":
		why = d.Put(at, v)
	case "del":
		why = d.Delete(at)
	case "add":
		why = d.Add(at, number(last))
	case "ins":
		why = d.Insert(at, index(l[4]), v)
	case "type":
		why = d.Type(at, index(l[4]), index(l[5]), text(last))
	case "rewrite":
		why = d.Rewrite(at, text(last))
	case "mark":
		why = d.Mark(at, index(l[4]), index(l[5]), text(l[6]), v)
	case "grow":
		why = d.Grow(at, text(l[4]), v)
	case "move":
		to, _, _ := way.Parse(l[4])
		why = d.Move(at, to, text(last))
	case "prune":
		why = d.Prune(at)
	}
	if why != api.OK {
		return wrong(why), true
	}
	return m.commits(l[1], l[2], 0, "", d.Edits()), true
}

// rows is some lines, or the line none.
func rows(l []string) string {
	if len(l) == 0 {
		l = []string{"none"}
	}
	return strings.Join(l, "\n") + "\n"
}

func shorts(ids []api.Hash) string {
	var l []string
	for _, h := range ids {
		l = append(l, digest.Hex(h)[:12])
	}
	return rows(l)
}

func (m *mirror) tells(l []string) (string, bool) {
	r := m.replicas[l[1]]
	switch l[0] {
	case "text":
		return r.Render() + "\n", true
	case "full":
		return render.Full(r.Nodes()), true
	case "read":
		s, why := r.Read(l[2])
		if why != api.OK {
			return wrong(why), true
		}
		return s + "\n", true
	case "heads":
		return shorts(r.Frontier()), true
	case "all":
		return shorts(r.Accepted()), true
	case "waiting":
		return shorts(r.Waiting()), true
	case "missing":
		return shorts(r.Missing()), true
	case "diff":
		var out []string
		for _, p := range patch.Diff(r.Nodes(), m.replicas[l[2]].Nodes()) {
			out = append(out, patch.Print(p))
		}
		return rows(out), true
	case "pack":
		return m.packs(l[1]), true
	}
	return "", false
}

func updatesOf(g *dag.Graph) []api.Update {
	var l []api.Update
	for _, h := range g.Order() {
		u, _ := g.Update(h)
		l = append(l, u)
	}
	return l
}

func (m *mirror) packs(name string) string {
	r, o := m.replicas[name], m.options[name]
	b, why := pack.Save(updatesOf(r.Graph()))
	if why != api.OK {
		return wrong(why)
	}
	o.Orphans = 0
	again, _ := replica.New(o)
	l, _, _ := pack.Load(b)
	for _, u := range l {
		row, _ := update.Encode(u)
		again.Receive(row)
	}
	word := "other"
	if slices.Equal(again.Accepted(), r.Accepted()) && again.Render() == r.Render() {
		word = "same"
	}
	return fmt.Sprintf("packed %d %s\n", len(b), word)
}

func (m *mirror) looksBack(l []string) string {
	var out []string
	g := m.replicas[l[1]].Graph()
	switch l[0] {
	case "log":
		for _, u := range updatesOf(g) {
			out = append(out, update.Line(u))
		}
	case "at":
		h, why := digest.Find(l[2], g.Order())
		if why != api.OK {
			return wrong(why)
		}
		d, _ := history.At(g, []api.Hash{h})
		out = append(out, render.Text(render.Nodes(d)))
	case "blame":
		at, _, _ := way.Parse(l[2])
		credits, why := history.Blame(g, at)
		if why != api.OK {
			return wrong(why)
		}
		for _, c := range credits {
			out = append(out, fmt.Sprintf("%d-%d %.12s#%d %d", c.From, c.To, digest.Hex(c.Id.Hash), c.Id.N, c.Author))
		}
	case "rights":
		for _, x := range policy.Rights(g, g.Heads()) {
			out = append(out, fmt.Sprintf("%d %d", x.Author, x.Rank))
		}
	case "void":
		return shorts(policy.Void(g))
	case "allowed":
		out = append(out, render.Text(render.Nodes(policy.Doc(g))))
	case "forks":
		for _, f := range keys.Forks(g) {
			s := fmt.Sprintf("%d %d", f.Author, f.Seq)
			for _, h := range f.Ids {
				s += fmt.Sprintf(" %.12s", digest.Hex(h))
			}
			out = append(out, s)
		}
	}
	return rows(out)
}
