package replica

import (
	"fmt"
	"maps"
	"math/rand"
	"slices"
	"strings"
	"testing"

	"estuary/api"
	"estuary/dag"
	"estuary/digest"
	"estuary/edit"
	"estuary/eval"
	"estuary/render"
	"estuary/update"
)

func pick[T any](r *rand.Rand, l ...T) T { return l[r.Intn(len(l))] }

func whole(n int) api.Value { return api.Value{Kind: api.Int, N: int64(n)} }

func put(key string, n int) api.Edit { return api.Edit{Act: api.Put, Key: key, Value: whole(n)} }

func up(l ...api.Hash) []api.Hash {
	l = slices.Clone(l)
	slices.SortFunc(l, digest.Compare)
	return slices.Compact(l)
}

// encode is an update's id and bytes.
func encode(t *testing.T, u api.Update) (api.Hash, []byte) {
	t.Helper()
	b, why := update.Encode(u)
	if why != api.OK {
		t.Fatalf("%+v: %d", u, why)
	}
	return digest.Sum(b), b
}

// model is a replica by the chapter's words, slowly.
type model struct {
	options  api.Options
	accepted map[api.Hash]api.Update
	waits    map[api.Hash]api.Update
	lacks    map[api.Hash][]api.Hash
	steps    int
}

func newModel(o api.Options) *model {
	return &model{options: o, accepted: map[api.Hash]api.Update{}, waits: map[api.Hash]api.Update{}, lacks: map[api.Hash][]api.Hash{}}
}

func (m *model) fork() *model {
	f := *m
	f.accepted, f.waits, f.lacks = maps.Clone(m.accepted), maps.Clone(m.waits), maps.Clone(m.lacks)
	return &f
}

// past is some accepted updates and all their ancestors.
func (m *model) past(l []api.Hash, in map[api.Hash]bool) map[api.Hash]bool {
	for _, h := range l {
		if !in[h] {
			in[h] = true
			m.past(m.accepted[h].Parents, in)
		}
	}
	return in
}

func (m *model) depth(h api.Hash) int {
	deepest := 0
	for _, p := range m.accepted[h].Parents {
		deepest = max(deepest, m.depth(p))
	}
	return deepest + 1
}

// order is all that is accepted, in the order.
func (m *model) order() []api.Hash {
	deep := map[api.Hash]int{}
	for h := range m.accepted {
		deep[h] = m.depth(h)
	}
	return slices.SortedFunc(maps.Keys(m.accepted), func(a, b api.Hash) int {
		if deep[a] != deep[b] {
			return deep[a] - deep[b]
		}
		return strings.Compare(string(a[:]), string(b[:]))
	})
}

func (m *model) heads() []api.Hash {
	var heads []api.Hash
	for h := range m.accepted {
		head := true
		for _, u := range m.accepted {
			head = head && !slices.Contains(u.Parents, h)
		}
		if head {
			heads = append(heads, h)
		}
	}
	return up(heads...)
}

func (m *model) next(author int, parents []api.Hash) int {
	seq := 0
	for h := range m.past(parents, map[api.Hash]bool{}) {
		if m.accepted[h].Author == author {
			seq = max(seq, m.accepted[h].Seq)
		}
	}
	return seq + 1
}

// receive is what becomes of bytes.
func (m *model) receive(b []byte) api.Receipt {
	u, why, _ := update.Decode(b)
	if why != api.OK {
		return api.Receipt{Why: why}
	}
	return m.came(u)
}

func (m *model) came(u api.Update) api.Receipt {
	id, _ := update.Id(u)
	x := api.Receipt{Id: id}
	_, accepted := m.accepted[id]
	_, waits := m.waits[id]
	if accepted || waits {
		x.Why = api.ErrKnown
		return x
	}
	var lacks []api.Hash
	for _, p := range u.Parents {
		if _, in := m.accepted[p]; !in {
			lacks = append(lacks, p)
		}
	}
	switch {
	case len(lacks) > 0 && len(m.waits) >= m.options.Orphans:
		x.Why = api.ErrFull
	case len(lacks) > 0:
		m.waits[id], m.lacks[id] = u, lacks
		x.Why = api.ErrParent
	case u.Seq != m.next(u.Author, u.Parents):
		m.drop(id)
		x.Why = api.ErrTurn
	default:
		m.takeIn(u, &x)
	}
	return x
}

// takeIn takes an update in, and all that comes out of the pool by it, as it comes.
func (m *model) takeIn(u api.Update, x *api.Receipt) {
	queue := []api.Update{u}
	for ; len(queue) > 0; queue = queue[1:] {
		u := queue[0]
		id, _ := update.Id(u)
		if u.Seq != m.next(u.Author, u.Parents) {
			m.drop(id)
			continue
		}
		x.Steps += m.accept(id, u)
		x.Taken = append(x.Taken, id)
		for _, h := range slices.SortedFunc(maps.Keys(m.waits), digest.Compare) {
			l := m.lacks[h]
			m.lacks[h] = slices.DeleteFunc(slices.Clone(l), func(p api.Hash) bool { return p == id })
			if len(m.lacks[h]) == 0 {
				queue = append(queue, m.waits[h])
				delete(m.waits, h)
				delete(m.lacks, h)
			}
		}
	}
	order := m.order()
	slices.SortFunc(x.Taken, func(a, b api.Hash) int { return slices.Index(order, a) - slices.Index(order, b) })
	m.steps += x.Steps
}

// accept puts an update into the graph; the answer is how many steps chapter 14 says.
func (m *model) accept(id api.Hash, u api.Update) int {
	kept := m.kept()
	size := len(m.accepted)
	m.accepted[id] = u
	p := slices.Index(m.order(), id)
	k := size - p
	steps := 2*k + 1
	for _, c := range kept {
		if c <= p {
			steps = min(2*k+1, p-c+k+1)
		}
	}
	return steps
}

// kept is where the checkpoints stand.
func (m *model) kept() []int {
	var l []int
	for n := m.options.Every; n <= len(m.accepted); n += m.options.Every {
		l = append(l, n)
	}
	return l[max(0, len(l)-m.options.Keep):]
}

// drop throws out all that wait for an update.
func (m *model) drop(id api.Hash) {
	for h := range maps.Clone(m.waits) {
		if _, waits := m.waits[h]; waits && slices.Contains(m.lacks[h], id) {
			delete(m.waits, h)
			delete(m.lacks, h)
			m.drop(h)
		}
	}
}

func (m *model) waiting() []api.Hash { return up(slices.Collect(maps.Keys(m.waits))...) }

func (m *model) missing() []api.Hash {
	var l []api.Hash
	for _, lacks := range m.lacks {
		for _, h := range lacks {
			if _, waits := m.waits[h]; !waits {
				l = append(l, h)
			}
		}
	}
	return up(l...)
}

// parents are those of a Commit.
func (m *model) parents(author int) []api.Hash {
	heads, order := m.heads(), m.order()
	if len(heads) <= api.MaxParents {
		return heads
	}
	newest, seq := api.Hash{}, 0
	for _, h := range order {
		if u := m.accepted[h]; u.Author == author && u.Seq > seq {
			newest, seq = h, u.Seq
		}
	}
	var first, second []api.Hash
	for _, h := range slices.Backward(order) {
		switch {
		case !slices.Contains(heads, h):
		case seq > 0 && m.past([]api.Hash{h}, map[api.Hash]bool{})[newest]:
			first = append(first, h)
		default:
			second = append(second, h)
		}
	}
	return up(append(first, second...)[:api.MaxParents]...)
}

func (m *model) commit(author int, time int64, note string, l []api.Edit) api.Receipt {
	u := api.Update{Parents: m.parents(author), Author: author, Time: time, Note: note, Edits: l}
	u.Seq = m.next(author, u.Parents)
	if why := update.Right(u); why != api.OK {
		return api.Receipt{Why: why}
	}
	return m.came(u)
}

// told is all that is told of a replica.
type told struct {
	Full, Render                         string
	Frontier, Accepted, Waiting, Missing []api.Hash
	Export                               [][]byte
	Kept, Steps                          int
}

func tell(r *Replica) string {
	return fmt.Sprintf("%x", told{render.Full(r.Nodes()), r.Render(), r.Frontier(), r.Accepted(), r.Waiting(), r.Missing(), r.Export(), r.Kept(), r.Steps()})
}

func (m *model) tell(t *testing.T) string {
	t.Helper()
	g := dag.New()
	var rows [][]byte
	for _, h := range m.order() {
		if id, why := g.Add(m.accepted[h]); why != api.OK || id != h {
			t.Fatalf("an accepted update is not sound: %d", why)
		}
		_, b := encode(t, m.accepted[h])
		rows = append(rows, b)
	}
	l := render.Nodes(eval.Fold(g, m.order(), nil))
	return fmt.Sprintf("%x", told{render.Full(l), render.Text(l), m.heads(), m.order(), m.waiting(), m.missing(), rows, len(m.kept()), m.steps})
}

// same holds a replica against its model.
func same(t *testing.T, r *Replica, m *model) {
	t.Helper()
	if got, want := tell(r), m.tell(t); got != want {
		t.Fatalf("told %s, not %s", got, want)
	}
}

func sameReceipt(t *testing.T, name string, got, want api.Receipt) {
	t.Helper()
	if got.Why != want.Why || got.Id != want.Id || got.Steps != want.Steps || !slices.Equal(got.Taken, want.Taken) {
		t.Fatalf("%s: %+v, not %+v", name, got, want)
	}
}

// world is updates by chance: sound ones, others, and such as stand behind these.
type world struct {
	g       *dag.Graph // the sound ones
	ids     []api.Hash
	rows    [][]byte
	objects []api.Id // Lists, all of them in the root
	parts   []api.Id // what was put into them
}

// anyEdit is a right edit by chance.
func (w *world) anyEdit(r *rand.Rand) api.Edit {
	ref := func(id api.Id) api.Ref { return edit.Ref(id, api.Hash{}) }
	key := pick(r, "a", "b", "c")
	if len(w.objects) == 0 || r.Intn(2) == 0 {
		return pick(r, put(key, r.Intn(9)), api.Edit{Act: api.Put, Key: key, Value: api.Value{Kind: api.List}}, api.Edit{Act: api.Delete, Key: key}, api.Edit{Act: api.Put, Key: key, Value: api.Value{Kind: api.Counter}}, api.Edit{Act: api.Add, Key: key, N: 3})
	}
	obj, at := pick(r, w.objects...), pick(r, append(w.parts, api.Id{})...)
	if at == (api.Id{}) || r.Intn(2) == 0 {
		return api.Edit{Act: api.Insert, Obj: ref(obj), At: ref(at), Value: whole(r.Intn(9))}
	}
	return pick(r, api.Edit{Act: api.Delete, Obj: ref(obj), At: ref(at)}, api.Edit{Act: api.Mark, Obj: ref(obj), At: ref(at), Key: key, Sides: r.Intn(4), Value: whole(1)}, api.Edit{Act: api.Put, Obj: ref(obj), At: ref(at), Value: whole(r.Intn(9))})
}

func (w *world) note(id api.Hash, u api.Update) {
	for i, e := range u.Edits {
		op := edit.Op(e, id, i+1, u.Author)
		switch {
		case op.Act == api.Insert:
			w.parts = append(w.parts, op.Id)
		case op.Value.Kind == api.List:
			w.objects = append(w.objects, op.Id)
		}
	}
}

// anyWorld has so many updates; bad of 100 of them have the wrong number.
func anyWorld(t *testing.T, r *rand.Rand, size, bad int) *world {
	t.Helper()
	w := &world{g: dag.New()}
	for len(w.rows) < size {
		u := api.Update{Author: 1 + r.Intn(4), Time: int64(r.Intn(9)), Note: pick(r, "", "n", "é")}
		for range r.Intn(4) {
			if len(w.ids) > 0 {
				u.Parents = append(u.Parents, w.ids[max(0, len(w.ids)-1-r.Intn(8))])
			}
		}
		u.Parents = up(u.Parents...)
		for range r.Intn(4) {
			u.Edits = append(u.Edits, w.anyEdit(r))
		}
		u.Seq = w.g.Next(u.Author, u.Parents)
		if r.Intn(100) < bad {
			u.Seq = max(1, u.Seq+r.Intn(3)-1)
		}
		id, b := encode(t, u)
		if slices.Contains(w.ids, id) {
			continue
		}
		w.g.Add(u)
		w.ids, w.rows = append(w.ids, id), append(w.rows, b)
		w.note(id, u)
	}
	return w
}

// shuffled is the rows in any order, some of them often.
func (w *world) shuffled(r *rand.Rand) [][]byte {
	l := slices.Clone(w.rows)
	for range r.Intn(len(l)) {
		l = append(l, pick(r, w.rows...))
	}
	r.Shuffle(len(l), func(i, j int) { l[i], l[j] = l[j], l[i] })
	return l
}

// nearly is the rows in the order in which they were made, but that some come a little later.
func (w *world) nearly(r *rand.Rand) [][]byte {
	l := slices.Clone(w.rows)
	for i := range l {
		j := min(len(l)-1, i+r.Intn(4))
		l[i], l[j] = l[j], l[i]
	}
	return l
}

// spoilt is bytes with one of them changed, cut off, or put behind.
func spoilt(r *rand.Rand, b []byte) []byte {
	b = slices.Clone(b)
	switch at := r.Intn(len(b)); r.Intn(3) {
	case 0:
		return b[:at]
	case 1:
		return append(b, byte(r.Intn(256)))
	default:
		b[at] ^= byte(1 << r.Intn(8))
		return b
	}
}
