package update

import (
	"bytes"
	"crypto/sha256"
	"math"
	"slices"
	"strings"
	"testing"

	"estuary/api"
	"estuary/edit"
)

var negativeZero = math.Copysign(0, -1)

func own(n int) api.Ref             { return api.Ref{Kind: api.RefOwn, N: n} }
func op(h api.Hash, n int) api.Ref  { return api.Ref{Kind: api.RefOp, Hash: h, N: n} }
func textValue(s string) api.Value  { return api.Value{Kind: api.Text, S: s} }
func floatValue(f float64) api.Edit { return api.Edit{Value: api.Value{Kind: api.Float, F: f}} }

// hashList is n hashes that rise.
func hashList(n int) []api.Hash {
	l := make([]api.Hash, n)
	for i := range l {
		l[i] = api.Hash{byte(i), 9, 31: byte(i + 1)}
	}
	return l
}

func editOf(t *testing.T, line string) api.Edit {
	t.Helper()
	e, why, word := edit.Parse(line)
	if why != api.OK {
		t.Fatalf("%s: %d at %d", line, why, word)
	}
	return e
}

// least is the update of the first example.
func least() api.Update { return api.Update{Author: 1, Seq: 1} }

func leastBytes() []byte {
	return []byte{0x45, 0x53, 0x54, 0x31, 0, 1, 1, 0, 0, 0}
}

// great is an update in which all parts are there.
func great(t *testing.T) api.Update {
	t.Helper()
	return api.Update{
		Parents: []api.Hash{{1}, {2, 31: 7}},
		Author:  300,
		Seq:     2,
		Time:    128,
		Note:    `a "b" \ €`,
		Edits: []api.Edit{
			editOf(t, `put . . "l" []`),
			editOf(t, `insert #1 . "x"`),
			editOf(t, `mark #1 `+strings.Repeat("ab", 32)+`#3 #2 "b" 3 1.5`),
			editOf(t, `grant 7 3`),
		},
	}
}

// greatBytes is written by hand, by the chapters.
func greatBytes() []byte {
	return bytes.Join([][]byte{
		[]byte("EST1"),
		{2, 1}, make([]byte, 31), {2}, make([]byte, 30), {7},
		{0xac, 2}, {2}, {0x80, 1},
		{11}, []byte("a \"b\" \\ \xe2\x82\xac"),
		{4},
		{1, 0, 0, 1, 'l', 9},
		{4, 1, 1, 0, 4, 1, 'x'},
		{5, 1, 1, 2}, bytes.Repeat([]byte{0xab}, 32), {3, 1, 2, 1, 'b', 3, 3, 0x3f, 0xf8, 0, 0, 0, 0, 0, 0},
		{9, 7, 6},
	}, nil)
}

// sized is an update with so many bytes, of edits with some 1100 each.
func sized(size int) api.Update {
	const ahead, most = 1 + 34 + 1 + 65 + 3, 1000 // act, Obj, At, Key, the value's kind and length; the text
	u := least()
	for left := size - len(leastBytes()); left > 0; {
		n := min(left-ahead, most)
		if rest := left - ahead - n; rest > 0 && rest < 2*ahead+128 {
			n -= 500 // so that the last edit's text is not too short
		}
		u.Edits = append(u.Edits, api.Edit{Act: api.Put, Obj: op(api.Hash{}, 1), Key: strings.Repeat("k", api.MaxKey), Value: textValue(strings.Repeat("t", n))})
		left -= ahead + n
	}
	return u
}

type fault struct {
	why   api.Errno
	spoil func(u *api.Update)
}

// faults are what can be wrong, in the order in which it is told.
func faults() []fault {
	return []fault{
		{api.ErrParents, func(u *api.Update) { u.Parents = hashList(api.MaxParents + 1) }},
		{api.ErrAuthor, func(u *api.Update) { u.Author = 0 }},
		{api.ErrSeq, func(u *api.Update) { u.Seq = 0 }},
		{api.ErrTime, func(u *api.Update) { u.Time = -1 }},
		{api.ErrNote, func(u *api.Update) { u.Note = "\n" }},
		{api.ErrEdits, func(u *api.Update) { u.Edits = append(make([]api.Edit, api.MaxEdits), u.Edits...) }},
		{api.ErrAct, func(u *api.Update) { u.Edits = append([]api.Edit{{Act: 11}}, u.Edits...) }},
		{api.ErrSize, func(u *api.Update) { u.Edits = slices.Concat(u.Edits, sized(api.MaxUpdate+1).Edits) }},
	}
}

// checkWrong: what is wrong with an update is told by all that write it, with nothing beside.
func checkWrong(t *testing.T, name string, u api.Update, why api.Errno) {
	t.Helper()
	if got := Right(u); got != why {
		t.Errorf("%s: Right = %d, not %d", name, got, why)
	}
	if b, got := Encode(u); got != why || len(b) > 0 {
		t.Errorf("%s: Encode = %x, %d", name, b, got)
	}
	if id, got := Id(u); got != why || id != (api.Hash{}) {
		t.Errorf("%s: Id = %x, %d", name, id, got)
	}
	if ops, got := Ops(u); got != why || len(ops) > 0 {
		t.Errorf("%s: Ops = %v, %d", name, ops, got)
	}
	if line := Line(u); line != "" {
		t.Errorf("%s: Line = %q", name, line)
	}
}

// P5.1, P5.2, P5.5, P5.6
func TestWrongUpdates(t *testing.T) {
	a, b := api.Hash{1}, api.Hash{2}
	bad := editOf(t, `prune . #1`)
	bad.At = api.Ref{}
	for name, c := range map[string]struct {
		why   api.Errno
		spoil func(u *api.Update)
	}{
		"a parent twice":        {api.ErrParents, func(u *api.Update) { u.Parents = []api.Hash{a, a} }},
		"falling parents":       {api.ErrParents, func(u *api.Update) { u.Parents = []api.Hash{b, a} }},
		"falling at the end":    {api.ErrParents, func(u *api.Update) { u.Parents = []api.Hash{{}, b, a} }},
		"nine parents":          {api.ErrParents, func(u *api.Update) { u.Parents = hashList(9) }},
		"author 0":              {api.ErrAuthor, func(u *api.Update) { u.Author = 0 }},
		"author -1":             {api.ErrAuthor, func(u *api.Update) { u.Author = -1 }},
		"author 2^32":           {api.ErrAuthor, func(u *api.Update) { u.Author = api.MaxAuthor }},
		"the least author":      {api.ErrAuthor, func(u *api.Update) { u.Author = math.MinInt }},
		"Seq 0":                 {api.ErrSeq, func(u *api.Update) { u.Seq = 0 }},
		"Seq -1":                {api.ErrSeq, func(u *api.Update) { u.Seq = -1 }},
		"Seq beyond its limit":  {api.ErrSeq, func(u *api.Update) { u.Seq = api.MaxSeq + 1 }},
		"time -1":               {api.ErrTime, func(u *api.Update) { u.Time = -1 }},
		"time beyond its limit": {api.ErrTime, func(u *api.Update) { u.Time = api.MaxTime + 1 }},
		"the least time":        {api.ErrTime, func(u *api.Update) { u.Time = math.MinInt64 }},
		"a note's line feed":    {api.ErrNote, func(u *api.Update) { u.Note = "a\nb" }},
		"a note's last control": {api.ErrNote, func(u *api.Update) { u.Note = "a\x1f" }},
		"a note's byte 127":     {api.ErrNote, func(u *api.Update) { u.Note = "\x7f" }},
		"a note of no UTF-8":    {api.ErrNote, func(u *api.Update) { u.Note = "\xe2\x82" }},
		"a note of 201 bytes":   {api.ErrNote, func(u *api.Update) { u.Note = strings.Repeat("n", 201) }},
		"65 edits":              {api.ErrEdits, func(u *api.Update) { u.Edits = slices.Repeat([]api.Edit{editOf(t, "revoke 1")}, 65) }},
		"an edit of no act":     {api.ErrAct, func(u *api.Update) { u.Edits = make([]api.Edit, 1) }},
		"an edit's field":       {api.ErrField, func(u *api.Update) { u.Edits = append(u.Edits, bad) }},
		"the first wrong edit":  {api.ErrField, func(u *api.Update) { u.Edits = append(u.Edits, bad, api.Edit{}) }},
		"the other way round":   {api.ErrAct, func(u *api.Update) { u.Edits = append(u.Edits, api.Edit{}, bad) }},
		"a byte too many":       {api.ErrSize, func(u *api.Update) { u.Edits = sized(api.MaxUpdate + 1).Edits }},
		"many bytes too many":   {api.ErrSize, func(u *api.Update) { u.Edits = sized(api.MaxUpdate + 5000).Edits }},
	} {
		u := least()
		c.spoil(&u)
		checkWrong(t, name, u, c.why)
	}
}

// P5.1, P2
func TestFirstFaultIsTold(t *testing.T) {
	for i, first := range faults() {
		for _, second := range faults()[i+1:] {
			u := least()
			second.spoil(&u)
			first.spoil(&u)
			checkWrong(t, "two faults", u, first.why)
		}
	}
}

// P5.1
func TestRightUpdates(t *testing.T) {
	edges := map[string]api.Update{
		"the least":         least(),
		"with all":          great(t),
		"zero parent":       {Author: 1, Seq: 1, Parents: make([]api.Hash, 1)},
		"eight parents":     {Author: 1, Seq: 1, Parents: hashList(8)},
		"the last author":   {Author: api.MaxAuthor - 1, Seq: 1},
		"the last Seq":      {Author: 1, Seq: api.MaxSeq},
		"the last time":     {Author: 1, Seq: 1, Time: api.MaxTime},
		"a note's limit":    {Author: 1, Seq: 1, Note: strings.Repeat("n", api.MaxNote)},
		"a blank":           {Author: 1, Seq: 1, Note: " "},
		"64 edits":          {Author: 1, Seq: 1, Edits: slices.Repeat([]api.Edit{editOf(t, "revoke 1")}, api.MaxEdits)},
		"empty lists":       {Author: 1, Seq: 1, Parents: []api.Hash{}, Edits: []api.Edit{}},
		"the greatest size": sized(api.MaxUpdate),
	}
	for name, u := range edges {
		if why := Right(u); why != api.OK {
			t.Errorf("%s: %d", name, why)
		}
		b, why := Encode(u)
		if why != api.OK || len(b) > api.MaxUpdate {
			t.Errorf("%s: Encode: %d, %d bytes", name, why, len(b))
		}
		back, why, at := Decode(b)
		if why != api.OK || at != 0 || !Same(back, u) {
			t.Errorf("%s: Decode(Encode) = %v, %d, %d", name, back, why, at)
		}
	}
	if b, _ := Encode(edges["the greatest size"]); len(b) != api.MaxUpdate {
		t.Errorf("%d bytes are not the greatest size", len(b))
	}
}

// P5.2, the first example
func TestBytesAndIds(t *testing.T) {
	for name, c := range map[string]struct {
		u api.Update
		b []byte
	}{
		"the least": {least(), leastBytes()},
		"with all":  {great(t), greatBytes()},
	} {
		if b, why := Encode(c.u); why != api.OK || !bytes.Equal(b, c.b) {
			t.Errorf("%s: %x, %d", name, b, why)
		}
		if id, why := Id(c.u); why != api.OK || id != sha256.Sum256(c.b) {
			t.Errorf("%s: id %x, %d", name, id, why)
		}
		if u, why, at := Decode(c.b); why != api.OK || at != 0 || !Same(u, c.u) {
			t.Errorf("%s: %v, %d, %d", name, u, why, at)
		}
	}
}

// P5.4
func TestSame(t *testing.T) {
	nan := math.NaN()
	otherNan := math.Float64frombits(math.Float64bits(nan) ^ 1)
	for name, change := range map[string]func(u *api.Update){
		"a parent more":   func(u *api.Update) { u.Parents = append(u.Parents, api.Hash{3}) },
		"a parent less":   func(u *api.Update) { u.Parents = u.Parents[:1] },
		"another parent":  func(u *api.Update) { u.Parents[1][31]++ },
		"parents' order":  func(u *api.Update) { slices.Reverse(u.Parents) },
		"author":          func(u *api.Update) { u.Author = -1 },
		"Seq":             func(u *api.Update) { u.Seq++ },
		"time":            func(u *api.Update) { u.Time-- },
		"note":            func(u *api.Update) { u.Note += " " },
		"an edit more":    func(u *api.Update) { u.Edits = append(u.Edits, api.Edit{}) },
		"an edit less":    func(u *api.Update) { u.Edits = u.Edits[:3] },
		"the edits' turn": func(u *api.Update) { slices.Reverse(u.Edits) },
		"act":             func(u *api.Update) { u.Edits[0].Act++ },
		"object":          func(u *api.Update) { u.Edits[1].Obj.N++ },
		"at":              func(u *api.Update) { u.Edits[2].At.Hash[31]++ },
		"to":              func(u *api.Update) { u.Edits[3].To.Kind = 9 },
		"key":             func(u *api.Update) { u.Edits[0].Key = "" },
		"sides":           func(u *api.Update) { u.Edits[2].Sides = 2 },
		"kind":            func(u *api.Update) { u.Edits[0].Value.Kind = api.Map },
		"value's number":  func(u *api.Update) { u.Edits[0].Value.N = 1 },
		"float":           func(u *api.Update) { u.Edits[2].Value.F = 2.5 },
		"no number":       func(u *api.Update) { u.Edits[2].Value.F = nan },
		"-0 for 0":        func(u *api.Update) { u.Edits[0].Value.F = negativeZero },
		"value's text":    func(u *api.Update) { u.Edits[1].Value.S = "y" },
		"number":          func(u *api.Update) { u.Edits[3].N = 4 },
		"who":             func(u *api.Update) { u.Edits[3].Who = 8 },
	} {
		u := great(t)
		change(&u)
		if Same(u, great(t)) || Same(great(t), u) {
			t.Errorf("%s: the same", name)
		}
		if !Same(u, u) || !Same(u, Copy(u)) {
			t.Errorf("%s: not the same as itself, or its copy", name)
		}
	}
	odd := func(f float64) api.Update { return api.Update{Author: -5, Edits: []api.Edit{floatValue(f)}} }
	if !Same(odd(nan), odd(nan)) || Same(odd(nan), odd(otherNan)) || Same(odd(0), odd(negativeZero)) || !Same(odd(negativeZero), odd(negativeZero)) {
		t.Error("floats are not held against each other by their bits")
	}
	empty := api.Update{Parents: []api.Hash{}, Edits: []api.Edit{}}
	if !Same(empty, api.Update{}) || !Same(api.Update{}, empty) {
		t.Error("lists without elements are not alike")
	}
}

// room is an update whose lists have room behind their end, and what lies there.
func room(u api.Update) (api.Update, []api.Hash, []api.Edit) {
	parents := append(slices.Clone(u.Parents), api.Hash{1, 2, 3})
	edits := append(slices.Clone(u.Edits), api.Edit{Act: 77})
	u.Parents, u.Edits = parents[:len(parents)-1], edits[:len(edits)-1]
	return u, parents, edits
}

// P5.4, P3
func TestCopyIsNewMemory(t *testing.T) {
	u, parents, edits := room(great(t))
	c := Copy(u)
	if !Same(c, u) {
		t.Errorf("Copy = %v", c)
	}
	c.Parents[0], c.Edits[0] = api.Hash{9}, api.Edit{}
	c.Parents, c.Edits = append(c.Parents, api.Hash{9}), append(c.Edits, api.Edit{})
	if !Same(u, great(t)) || parents[2] != (api.Hash{1, 2, 3}) || edits[4].Act != 77 {
		t.Error("what is done to a copy shows in what was copied")
	}
	for name, odd := range map[string]api.Update{
		"zero":  {},
		"wrong": {Parents: []api.Hash{{2}, {1}}, Author: -1, Seq: -1, Time: -1, Note: "\xff", Edits: []api.Edit{{Act: 99, Value: api.Value{F: math.NaN()}}}},
	} {
		if !Same(Copy(odd), odd) {
			t.Errorf("%s: Copy = %v", name, Copy(odd))
		}
	}
}

// P3
func TestArgumentsAreLeftAlone(t *testing.T) {
	u, parents, edits := room(great(t))
	Right(u)
	Encode(u)
	Id(u)
	Ops(u)
	Line(u)
	Same(u, u)
	for _, h := range [][]api.Hash{Names(u), Names(u)} {
		h = h[:cap(h)]
		for i := range h {
			h[i] = api.Hash{5}
		}
	}
	if !Same(u, great(t)) || parents[2] != (api.Hash{1, 2, 3}) || edits[4].Act != 77 {
		t.Error("an argument was changed")
	}
	b := append(greatBytes(), 1, 2, 3)
	got, why, _ := Decode(b[:len(b)-3])
	if why != api.OK || !bytes.Equal(b, append(greatBytes(), 1, 2, 3)) {
		t.Errorf("Decode: %d, or its bytes were changed", why)
	}
	for i := range b {
		b[i] = 0
	}
	if !Same(got, great(t)) {
		t.Error("what Decode answered shares memory with the bytes")
	}
	first, _ := Encode(u)
	for i := range first {
		first[i] = 0
	}
	if again, _ := Encode(u); !bytes.Equal(again, greatBytes()) {
		t.Error("what Encode answered is kept")
	}
}

// P5.5
func TestOps(t *testing.T) {
	u := great(t)
	id := api.Hash(sha256.Sum256(greatBytes()))
	ab := api.Hash(bytes.Repeat([]byte{0xab}, 32))
	ops, why := Ops(u)
	want := []api.Op{
		{Id: api.Id{Hash: id, N: 1}, Author: 300, Act: api.Put, Key: "l", Value: api.Value{Kind: api.List}},
		{Id: api.Id{Hash: id, N: 2}, Author: 300, Act: api.Insert, Obj: api.Id{Hash: id, N: 1}, Value: textValue("x")},
		{Id: api.Id{Hash: id, N: 3}, Author: 300, Act: api.Mark, Obj: api.Id{Hash: id, N: 1}, At: api.Id{Hash: ab, N: 3}, To: api.Id{Hash: id, N: 2}, Key: "b", Sides: 3, Value: api.Value{Kind: api.Float, F: 1.5}},
		{Id: api.Id{Hash: id, N: 4}, Author: 300, Act: api.Grant, N: 3, Who: 7},
	}
	if why != api.OK || !slices.Equal(ops, want) {
		t.Errorf("Ops = %v, %d", ops, why)
	}
	if ops, why := Ops(least()); why != api.OK || len(ops) != 0 {
		t.Errorf("of no edits: %v, %d", ops, why)
	}
}

// P5.5, P4
func TestNames(t *testing.T) {
	a, b, c := api.Hash{1}, api.Hash{2}, api.Hash{1, 31: 1}
	for name, x := range map[string]struct {
		edits []api.Edit
		want  []api.Hash
	}{
		"none":             {nil, nil},
		"other references": {[]api.Edit{{Obj: own(1), At: api.Ref{Hash: a}, To: api.Ref{Kind: 3, Hash: b}}}, nil},
		"of an own one":    {[]api.Edit{{Obj: api.Ref{Kind: api.RefOwn, Hash: a, N: 1}}}, nil},
		"an object":        {[]api.Edit{{Act: api.Put, Obj: op(a, 1), Key: "k"}}, []api.Hash{a}},
		"at":               {[]api.Edit{{Act: api.Put, At: op(a, 1)}}, []api.Hash{a}},
		"to":               {[]api.Edit{{Act: api.Move, To: op(a, 1)}}, []api.Hash{a}},
		"zero":             {[]api.Edit{{Act: api.Put, Obj: op(api.Hash{}, 1)}}, []api.Hash{{}}},
		"rising, once":     {[]api.Edit{{Obj: op(b, 1), At: op(c, 2), To: op(a, 3)}, {At: op(b, 7)}, {To: op(a, -1)}}, []api.Hash{a, c, b}},
		"not right":        {[]api.Edit{{Act: 99, Obj: op(a, 1000)}, {Act: api.Grant, To: op(b, 0)}}, []api.Hash{a, b}},
	} {
		if got := Names(api.Update{Edits: x.edits}); !slices.Equal(got, x.want) {
			t.Errorf("%s: %v", name, got)
		}
	}
}

// P5.6
func TestLine(t *testing.T) {
	// The ids' digits are those of another program's SHA-256 of the bytes.
	for _, c := range []struct {
		u    api.Update
		want string
	}{
		{least(), `aa88f083 1.1 0 0 0 ""`},
		{great(t), `5bc0b741 300.2 128 2 4 "a \"b\" \\ €"`},
	} {
		if got := Line(c.u); got != c.want {
			t.Errorf("Line = %s, not %s", got, c.want)
		}
	}
	far := api.Update{Author: api.MaxAuthor - 1, Seq: api.MaxSeq, Time: api.MaxTime, Note: "n"}
	if got := Line(far); !strings.HasSuffix(got, ` 4294967295.1048576 9007199254740992 0 0 "n"`) {
		t.Errorf("Line = %s", got)
	}
}
