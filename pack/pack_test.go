package pack

import (
	"bytes"
	"encoding/binary"
	"math"
	"math/rand"
	"slices"
	"strings"
	"testing"

	"estuary/api"
	"estuary/digest"
	"estuary/edit"
	"estuary/update"
)

func editOf(t *testing.T, line string) api.Edit {
	t.Helper()
	e, why, word := edit.Parse(line)
	if why != api.OK {
		t.Fatalf("%s: %d at %d", line, why, word)
	}
	return e
}

func up(l ...api.Hash) []api.Hash {
	l = slices.Clone(l)
	slices.SortFunc(l, digest.Compare)
	return slices.Compact(l)
}

// few are four updates: one, another with a note, one with parents in and out of the list, and one with the same two ahead.
func few(t *testing.T) []api.Update {
	t.Helper()
	l := []api.Update{
		{Author: 1, Seq: 1},
		{Author: 300, Seq: 1, Time: 7, Note: "n€", Edits: []api.Edit{editOf(t, `put . . "a" 1`), editOf(t, `revoke 5`)}},
	}
	a, b := idOf(t, l[0]), idOf(t, l[1])
	l = append(l, api.Update{Parents: up(a, b, api.Hash{9}), Author: 1, Seq: 2, Time: 7, Edits: []api.Edit{editOf(t, `grant 7 3`)}})
	return append(l, api.Update{Parents: up(a, b), Author: 1, Seq: 2, Time: 6})
}

func save(t *testing.T, l []api.Update) []byte {
	t.Helper()
	b, why := Save(l)
	if why != api.OK {
		t.Fatalf("Save: %d", why)
	}
	return b
}

// sized is an update whose column of edits has so many bytes, at least 105 and at most some 60000.
func sized(size int) api.Update {
	const ahead, most = 1 + 34 + 1 + 65 + 3, 1000 // act, Obj, At, Key, the value's kind and length; the text
	u := api.Update{Author: 1, Seq: 1}
	for size > 0 {
		n := min(size-ahead, most)
		if rest := size - ahead - n; rest > 0 && rest < ahead+128 {
			n -= 500 // so that the last edit's text has a length of two bytes
		}
		u.Edits = append(u.Edits, api.Edit{Act: api.Put, Obj: api.Ref{Kind: api.RefOp, N: 1}, Key: strings.Repeat("k", api.MaxKey), Value: api.Value{Kind: api.Text, S: strings.Repeat("t", n)}})
		size -= ahead + n
	}
	return u
}

// packed are like updates whose saved bytes are so many.
func packed(t *testing.T, size int) []api.Update {
	t.Helper()
	const each, last = 50000, 10000
	l := append(slices.Repeat([]api.Update{sized(each)}, size/each), sized(last))
	return append(l[:len(l)-1], sized(last+size-len(tableOf(t, l).bytes())))
}

// P23.2, the second example
func TestSaveOfNone(t *testing.T) {
	want := summed([]byte("ESP1\x00\x00\x00\x00\x00\x00\x00\x00\x00\x00"))
	for _, l := range [][]api.Update{nil, {}} {
		if b := save(t, l); !bytes.Equal(b, want) {
			t.Errorf("%x", b)
		}
	}
	if l, why, at := Load(want); why != api.OK || at != 0 || len(l) != 0 {
		t.Errorf("%v, %d, %d", l, why, at)
	}
}

// P23.2: bytes that were written by hand, by the chapters
func TestSavedBytes(t *testing.T) {
	first := api.Update{Author: 1, Seq: 1}
	h := idOf(t, first)
	out := api.Hash(bytes.Repeat([]byte{0xff}, 32)) // is above the others
	l := []api.Update{
		first,
		{Author: 1, Seq: 2, Time: 5, Parents: []api.Hash{h, out}, Note: "ab", Edits: []api.Edit{editOf(t, `revoke 5`), editOf(t, `put . . "a" 1`)}},
		first,
		{Author: 300, Seq: 3, Time: 10, Parents: []api.Hash{h, out}},
	}
	want := summed(bytes.Join([][]byte{
		[]byte("ESP1"), {4},
		{5, 7, 0, 2, 0, 2},   // parents: a row of 0 2 0 2
		{5, 7, 1, 0, 1, 0},   // the first is one place ahead both times
		{64}, out[:], out[:], // both others
		{5, 6, 1, 1, 0xac, 2},     // authors: three times 1; a row of 300
		{5, 4, 2, 3, 1, 4},        // Seq: 1 1 -1 2, folded 2 2 1 4
		{5, 7, 0, 10, 9, 20},      // Time: 0 5 -5 10, folded 0 10 9 20
		{6, 0, 2, 'a', 'b', 0, 0}, // notes
		{5, 3, 0, 2, 4, 0},        // how many edits: 0 2, twice 0
		{9, 10, 5, 1, 0, 0, 1, 'a', 2, 2},
	}, nil))
	if b := save(t, l); !bytes.Equal(b, want) {
		t.Errorf("%x, not %x", b, want)
	}
	if got, why, at := Load(want); why != api.OK || at != 0 || !sameUpdates(got, l) {
		t.Errorf("%v, %d, %d", got, why, at)
	}
}

// P23.2, P2: in this order
func TestSaveFaults(t *testing.T) {
	wrong := api.Update{Author: 1, Seq: 0, Time: -1}
	many := slices.Repeat([]api.Update{{Author: 1, Seq: 1}}, api.MaxUpdates)
	big := packed(t, api.MaxPacked+1)
	for name, c := range map[string]struct {
		l   []api.Update
		why api.Errno
	}{
		"too many":               {append(slices.Clone(many), many[0]), api.ErrFull},
		"too many, one wrong":    {append(slices.Clone(many), wrong), api.ErrFull},
		"one wrong":              {[]api.Update{{Author: 1, Seq: 1}, wrong}, api.ErrSeq},
		"the first wrong one":    {[]api.Update{{Seq: 1}, wrong}, api.ErrAuthor},
		"the other way round":    {[]api.Update{wrong, {Seq: 1}}, api.ErrSeq},
		"a wrong edit":           {[]api.Update{{Author: 1, Seq: 1, Edits: []api.Edit{{Act: 11}}}}, api.ErrAct},
		"falling parents":        {[]api.Update{{Author: 1, Seq: 1, Parents: []api.Hash{{2}, {1}}}}, api.ErrParents},
		"too large by one":       {big, api.ErrSize},
		"too large, one wrong":   {append(slices.Clone(big), wrong), api.ErrSeq},
		"too large by very many": {slices.Repeat([]api.Update{sized(60000)}, api.MaxUpdates/8), api.ErrSize},
	} {
		if b, why := Save(c.l); why != c.why || len(b) > 0 {
			t.Errorf("%s: %d bytes, %d, not %d", name, len(b), why, c.why)
		}
	}
}

// P23.2, P23.3: the greatest that may be
func TestLimits(t *testing.T) {
	most := slices.Repeat([]api.Update{{Author: api.MaxAuthor - 1, Seq: api.MaxSeq, Time: api.MaxTime, Note: strings.Repeat("n", api.MaxNote)}}, api.MaxUpdates)
	edits := []api.Update{{Author: 1, Seq: 1, Edits: slices.Repeat([]api.Edit{editOf(t, "revoke 1")}, api.MaxEdits)}}
	parents := []api.Update{{Author: 1, Seq: 1, Parents: []api.Hash{{1}, {2}, {3}, {4}, {5}, {6}, {7}, {8}}}}
	whole := packed(t, api.MaxPacked)
	for name, l := range map[string][]api.Update{"updates": most, "edits": edits, "parents": parents, "bytes": whole} {
		b := save(t, l)
		if name == "bytes" && len(b) != api.MaxPacked {
			t.Errorf("%d bytes are not the most", len(b))
		}
		if got, why, at := Load(b); why != api.OK || at != 0 || !sameUpdates(got, l) {
			t.Errorf("%s: %d updates, %d, %d", name, len(got), why, at)
		}
	}
	b := append(save(t, whole), 0)
	if l, why, at := Load(b); why != api.ErrSize || at != 0 || len(l) > 0 {
		t.Errorf("a byte more: %d, %d", why, at)
	}
}

// P23.3: what stands around the columns
func TestLoadEnds(t *testing.T) {
	good := save(t, few(t))
	end := len(good) - 4
	magic := func(at int, x byte) []byte {
		b := slices.Clone(good[:end])
		b[at] = x
		return summed(b)
	}
	for name, c := range map[string]struct {
		b   []byte
		why api.Errno
		at  int
	}{
		"none":                        {nil, api.ErrShort, 0},
		"seven":                       {good[:7], api.ErrShort, 7},
		"eight":                       {good[:8], api.ErrSum, 4},
		"a byte less":                 {good[:len(good)-1], api.ErrSum, end - 1},
		"a byte more":                 {append(slices.Clone(good), 0), api.ErrSum, end + 1},
		"too long":                    {make([]byte, api.MaxPacked+1), api.ErrSize, 0},
		"the longest":                 {make([]byte, api.MaxPacked), api.ErrSum, api.MaxPacked - 4},
		"the first byte":              {magic(0, 'e'), api.ErrMagic, 0},
		"the last byte":               {magic(3, '2'), api.ErrMagic, 3},
		"a byte, and the sum":         {append(magic(1, 0)[:end], 1, 2, 3, 4), api.ErrSum, end},
		"only the beginning":          {summed([]byte("ESP1")), api.ErrShort, 4},
		"another beginning":           {summed([]byte("ESPX")), api.ErrMagic, 3},
		"the number's end":            {summed([]byte("ESP1\x80")), api.ErrShort, 5},
		"the number's form":           {summed([]byte("ESP1\x80\x00")), api.ErrForm, 5},
		"too many updates":            {summed([]byte("ESP1\x81\x20")), api.ErrRange, 4},
		"as many as may be":           {summed([]byte("ESP1\x80\x20")), api.ErrShort, 6},
		"no column":                   {summed([]byte("ESP1\x00")), api.ErrShort, 5},
		"eight columns":               {summed([]byte("ESP1\x00\x00\x00\x00\x00\x00\x00\x00\x00")), api.ErrShort, 13},
		"ten columns":                 {summed([]byte("ESP1\x00\x00\x00\x00\x00\x00\x00\x00\x00\x00\x00")), api.ErrMore, 14},
		"a column's end":              {summed([]byte("ESP1\x00\x02\x00")), api.ErrShort, 7},
		"a column's form":             {summed([]byte("ESP1\x00\x00\x80\x00")), api.ErrForm, 7},
		"a column that is too long":   {summed([]byte("ESP1\x00\x00\x81\x80\x80\x08")), api.ErrLong, 6},
		"a column as long as may be":  {summed([]byte("ESP1\x00\x00\x80\x80\x80\x08")), api.ErrShort, 10},
		"a wrong column, and one too": {summed([]byte("ESP1\x00\x01\x07\x00\x00\x00\x00\x00\x00\x00\x00\x00")), api.ErrMore, 15},
	} {
		if l, why, at := Load(c.b); why != c.why || at != c.at || len(l) > 0 {
			t.Errorf("%s: %d updates, %d, %d, not %d, %d", name, len(l), why, at, c.why, c.at)
		}
	}
}

func repeated(n int, x uint64) []byte { return wireRuns(slices.Repeat([]uint64{x}, n)) }

// P23.3: each column by itself, with the others as Save writes them; at 0 for one that is no column's fault, but an update's
func TestLoadColumns(t *testing.T) {
	long := append([]byte{0xc9, 1}, bytes.Repeat([]byte("n"), api.MaxNote+1)...)
	rows := func(l ...uint64) []byte { return wireRuns(l) }
	steps := func(l ...int64) []byte { return wireDeltas(l) }
	from := func(column, n int) func(x *table) []byte {
		return func(x *table) []byte { return x.columns[column-1][n:] }
	}
	set := func(b []byte) func(x *table) []byte { return func(*table) []byte { return b } }
	more := func(column int, b ...byte) func(x *table) []byte {
		return func(x *table) []byte { return append(slices.Clip(x.columns[column-1]), b...) }
	}
	less := func(column int) func(x *table) []byte {
		return func(x *table) []byte { return x.columns[column-1][:len(x.columns[column-1])-1] }
	}
	type spoilt struct {
		column int
		with   func(x *table) []byte
		at     int // the column whose place is told
	}
	cases := map[string]spoilt{
		"parents above 8":            {1, set(rows(0, 0, 9, 2)), 1},
		"parents by no run":          {1, set([]byte{7, 0, 0, 3, 2}), 1},
		"parents of fewer":           {1, set(rows(0, 0, 3)), 1},
		"parents of more":            {1, set(rows(0, 0, 3, 2, 0)), 1},
		"a parent more":              {1, set(rows(0, 0, 3, 3)), 2},
		"a parent less":              {1, set(rows(0, 0, 3, 1)), 2},
		"a parent for the first":     {1, set(rows(2, 0, 1, 2)), 2},
		"a place above":              {2, set(rows(0, 1, 3, 2, 3)), 2},
		"a place far above":          {2, set(rows(0, 1, math.MaxUint64, 2, 3)), 2},
		"a place more":               {2, set(rows(0, 1, 2, 2, 3, 1)), 2},
		"no places":                  {2, set(nil), 2},
		"places by no run":           {2, set([]byte{1, 0, 1, 1, 1, 2, 1, 2, 1, 3}), 2},
		"a 0 more":                   {2, set(rows(0, 0, 0, 2, 3)), 3},
		"no 0":                       {2, set(rows(1, 2, 2, 2, 3)), 3},
		"half a hash":                {3, less(3), 3},
		"a byte behind a hash":       {3, more(3, 0), 3},
		"a hash more":                {3, more(3, make([]byte, 32)...), 3},
		"no author for one":          {4, set(rows(1, 300, 1)), 4},
		"an author far above":        {4, set(rows(1, 1<<53+1, 1, 1)), 4},
		"an author as far as may be": {4, set(rows(1, 1<<53, 1, 1)), 0},
		"an author above":            {4, set(rows(1, api.MaxAuthor, 1, 1)), 0},
		"author 0":                   {4, set(rows(0, 300, 1, 1)), 0},
		"no Seq for one":             {5, set(steps(1, 1, 2)), 5},
		"a Seq far above":            {5, set(steps(1, 1, 2, 1<<53+1)), 5},
		"a Seq as far as may be":     {5, set(steps(1, 1, 2, 1<<53)), 0},
		"a Seq above":                {5, set(steps(1, 1, 2, api.MaxSeq+1)), 0},
		"Seq 0":                      {5, set(steps(1, 1, 2, 0)), 0},
		"a Seq below 0":              {5, set(steps(1, 1, 2, -1)), 0},
		"the least Seq":              {5, set(steps(1, 1, 2, math.MinInt64)), 0},
		"Seqs as runs":               {5, set(rows(1, 1, 2, 2)), 0},
		"no time for one":            {6, set(steps(0, 7, 7)), 6},
		"a time above":               {6, set(steps(0, 7, 7, api.MaxTime+1)), 6},
		"a time below 0":             {6, set(steps(0, 7, 7, -1)), 0},
		"no note for one":            {7, less(7), 7},
		"a note more":                {7, more(7, 0), 7},
		"a long note":                {7, set(append(append([]byte{0}, long...), 0, 0)), 7},
		"a note that is no text":     {7, set([]byte{0, 1, 0xff, 0, 0}), 7},
		"a note that is not right":   {7, set([]byte{0, 1, '\n', 0, 0}), 0},
		"a note's length":            {7, set([]byte{0, 0x80, 0, 0, 0}), 7},
		"no edits for one":           {8, set(rows(0, 2, 1)), 8},
		"edits above 64":             {8, set(rows(0, 65, 1, 0)), 8},
		"64 edits":                   {8, set(rows(0, 64, 1, 0)), 9},
		"an edit less":               {8, set(rows(0, 1, 1, 0)), 9},
		"edits for all":              {8, set(repeated(4, api.MaxEdits)), 9},
		"a byte behind the edits":    {9, more(9, 1), 9},
		"a byte less of the edits":   {9, less(9), 9},
		"a byte less ahead of them":  {9, from(9, 1), 9},
		"an edit that is not right":  {9, func(x *table) []byte { return append([]byte{11}, x.columns[8][1:]...) }, 9},
	}
	for name, c := range cases {
		x := tableOf(t, few(t))
		x.columns[c.column-1] = c.with(x)
		place := 0
		if c.at > 0 {
			place = x.place(c.at)
		}
		if l, why, at := Load(x.bytes()); why != api.ErrColumn || at != place || len(l) > 0 {
			t.Errorf("%s: %d updates, %d at %d, not at %d", name, len(l), why, at, place)
		}
	}
}

// P23.3, P2: of two wrong columns the first is told
func TestLoadFirstColumn(t *testing.T) {
	for first := 1; first <= 9; first++ {
		for second := first; second <= 9; second++ {
			x := tableOf(t, few(t))
			x.columns[first-1] = append(x.columns[first-1], 0x80)
			x.columns[second-1] = append(x.columns[second-1], 0x80)
			if l, why, at := Load(x.bytes()); why != api.ErrColumn || at != x.place(first) || len(l) > 0 {
				t.Errorf("%d and %d: %d at %d, not at %d", first, second, why, at, x.place(first))
			}
		}
	}
}

// P23.3: parents that are told in another way than Save tells them
func TestLoadParents(t *testing.T) {
	a := api.Update{Author: 1, Seq: 1}
	h := idOf(t, a)
	kid := api.Update{Author: 1, Seq: 2, Parents: []api.Hash{h}}
	wrong := api.Update{Author: 1, Seq: 2, Parents: []api.Hash{h}, Note: "n"}
	good := tableOf(t, []api.Update{a, a, kid})
	if l, why, _ := Load(good.bytes()); why != api.OK || !sameUpdates(l, []api.Update{a, a, kid}) {
		t.Fatalf("%v, %d", l, why)
	}
	for name, c := range map[string]struct {
		l     []api.Update
		spoil func(x *table)
		at    int
	}{
		"not the nearest":        {[]api.Update{a, a, kid}, func(x *table) { x.columns[1] = wireRuns([]uint64{2}) }, 2},
		"by its hash":            {[]api.Update{a, kid}, func(x *table) { x.columns[1], x.columns[2] = wireRuns([]uint64{0}), h[:] }, 2},
		"by its hash, not right": {[]api.Update{a, wrong}, func(x *table) { x.columns[1], x.columns[2], x.columns[6][2] = wireRuns([]uint64{0}), h[:], '\n' }, 2},
		"behind one that is wrong": {[]api.Update{wrong, a, kid}, func(x *table) {
			x.columns[1], x.columns[2], x.columns[6][1] = repeated(2, 0), append(h[:], h[:]...), '\n'
		}, 0},
		"ahead of one that is wrong": {[]api.Update{a, kid, wrong}, func(x *table) { x.columns[1], x.columns[2], x.columns[6][3] = wireRuns([]uint64{0, 2}), h[:], '\n' }, 2},
		"twice the same":             {[]api.Update{a, {Author: 1, Seq: 2, Parents: up(h, api.Hash{1})}}, func(x *table) { x.columns[1], x.columns[2] = repeated(2, 1), nil }, 0},
		"falling":                    {[]api.Update{{Author: 1, Seq: 2, Parents: []api.Hash{{1}, {2}}}}, func(x *table) { x.columns[2] = append(x.columns[2][32:], x.columns[2][:32]...) }, 0},
	} {
		x := tableOf(t, c.l)
		c.spoil(x)
		place := 0
		if c.at > 0 {
			place = x.place(c.at)
		}
		if l, why, at := Load(x.bytes()); why != api.ErrColumn || at != place || len(l) > 0 {
			t.Errorf("%s: %d updates, %d at %d, not at %d", name, len(l), why, at, place)
		}
	}
}

// anyUpdates are right ones, some of them twice, with parents ahead, behind and out of the list.
func anyUpdates(t *testing.T, r *rand.Rand, size int) []api.Update {
	t.Helper()
	lines := []string{`put . . "a" 1`, `insert #1 #2 "b c"`, `grant 7 3`, `revoke 5`, `move #1 #2 . "k"`, `add . . "n" -5`}
	var l []api.Update
	ids := []api.Hash{{1}, {0xff}}
	for range size {
		if len(l) > 0 && r.Intn(6) == 0 {
			l = append(l, pick(r, l...))
			continue
		}
		u := api.Update{Author: pick(r, 1, 1, 2, 300), Seq: pick(r, 1, len(l)+1, api.MaxSeq), Time: pick(r, 0, int64(len(l)), api.MaxTime), Note: pick(r, "", "", "n", "€ \"")}
		for range r.Intn(4) {
			u.Parents = append(u.Parents, pick(r, ids...))
		}
		u.Parents = up(u.Parents...)
		for range r.Intn(4) {
			u.Edits = append(u.Edits, editOf(t, pick(r, lines...)))
		}
		l = append(l, u)
		ids = append(ids, idOf(t, u))
	}
	if r.Intn(3) == 0 {
		r.Shuffle(len(l), func(i, j int) { l[i], l[j] = l[j], l[i] })
	}
	return l
}

// P23.2, P23.4
func TestSavedIsLoaded(t *testing.T) {
	for seed := range int64(1500) {
		r := rand.New(rand.NewSource(seed))
		l := anyUpdates(t, r, r.Intn(pick(r, 3, 10, 60)))
		b := save(t, l)
		if want := tableOf(t, l).bytes(); !bytes.Equal(b, want) {
			t.Fatalf("Save(%v) = %x, not %x", l, b, want)
		}
		got, why, at := Load(b)
		if why != api.OK || at != 0 || !sameUpdates(got, l) {
			t.Fatalf("Load = %v, %d, %d, not %v", got, why, at, l)
		}
	}
}

// spoil changes some bytes of saved bytes' parts.
func spoil(r *rand.Rand, x *table) {
	for range 1 + r.Intn(2) {
		c := &x.columns[r.Intn(9)]
		at := r.Intn(len(*c) + 1)
		switch r.Intn(5) {
		case 0:
			*c = slices.Insert(*c, at, byte(r.Intn(256)))
		case 1:
			*c = slices.Delete(*c, min(at, max(0, len(*c)-1)), len(*c))
		case 2:
			*c = slices.Clone(x.columns[r.Intn(9)])
		case 3:
			x.n = binary.AppendUvarint(nil, uint64(r.Intn(5)))
		default:
			if at < len(*c) {
				(*c)[at] = pick(r, (*c)[at]^1, (*c)[at]+2, byte(r.Intn(256)))
			}
		}
	}
}

// P23.3, P23.4: whatever is loaded is saved as just these bytes
func TestSpoiltColumns(t *testing.T) {
	taken := 0
	for seed := range int64(15000) {
		r := rand.New(rand.NewSource(seed))
		x := tableOf(t, anyUpdates(t, r, 1+r.Intn(5)))
		spoil(r, x)
		b := x.bytes()
		want, wantWhy, wantAt := wireLoad(b)
		l, why, at := Load(b)
		if why != wantWhy || at != wantAt || !sameUpdates(l, want) {
			t.Fatalf("Load(%x) = %v, %d, %d, not %v, %d, %d", b, l, why, at, want, wantWhy, wantAt)
		}
		if why == api.OK {
			taken++
			if again := save(t, l); !bytes.Equal(again, b) {
				t.Fatalf("%x is loaded, and saved as %x", b, again)
			}
		}
	}
	if taken < 100 {
		t.Errorf("only %d were taken", taken)
	}
}

// P23.6
func TestAnotherByte(t *testing.T) {
	good := save(t, few(t))
	for at := range good {
		for x := range 255 {
			b := slices.Clone(good)
			b[at] ^= byte(x + 1)
			if l, why, _ := Load(b); why == api.OK || len(l) > 0 {
				t.Fatalf("byte %d is %x: %d", at, b[at], why)
			}
		}
	}
}

// a fault is found by what it is, with its place
func TestFaults(t *testing.T) {
	_, err := load([]byte("ESP1"))
	if err == nil || err.Error() != "error 20 at byte 4" {
		t.Error(err)
	}
	if why, at := told(err); why != api.ErrShort || at != 4 {
		t.Errorf("%d at %d", why, at)
	}
}

// P3: what is handed in stays, and what is answered is memory of its own
func TestSaveAndLoadAreNewMemory(t *testing.T) {
	l := append(few(t), api.Update{Author: 9, Seq: 9, Note: "behind"})
	first := save(t, l[:4])
	again := save(t, l[:4])
	clear(again[:cap(again)])
	if b := save(t, l[:4]); !bytes.Equal(b, first) || l[4].Author != 9 || !sameUpdates(l[:4], few(t)) {
		t.Error("what was handed in is changed")
	}
	b := append(slices.Clone(first), 77)
	got, _, _ := Load(b[:len(first)])
	clear(b[:len(first)])
	if b[len(first)] != 77 || !sameUpdates(got, few(t)) {
		t.Error("what was loaded shares memory with the bytes")
	}
	for i := range got {
		clear(got[i].Parents[:cap(got[i].Parents)])
		clear(got[i].Edits[:cap(got[i].Edits)])
		rest := slices.Clone(few(t))
		for k := range i + 1 {
			rest[k].Parents, rest[k].Edits = make([]api.Hash, len(rest[k].Parents)), make([]api.Edit, len(rest[k].Edits))
		}
		if !slices.EqualFunc(got, rest, update.Same) {
			t.Errorf("the lists of update %d are shared", i)
		}
	}
}
