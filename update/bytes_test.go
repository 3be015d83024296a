package update

import (
	"bytes"
	"math/rand"
	"slices"
	"strings"
	"testing"

	"estuary/api"
)

func join(l ...[]byte) []byte {
	return bytes.Join(l, nil)
}

// from is a beginning of the least update's bytes, with others behind it.
func from(n int, behind ...byte) []byte {
	return join(leastBytes()[:n], behind)
}

// checkFault: a Decode that is refused answers nothing beside its error and its place.
func checkFault(t *testing.T, name string, b []byte, why api.Errno, at int) {
	t.Helper()
	u, gotWhy, gotAt := Decode(b)
	if gotWhy != why || gotAt != at {
		t.Errorf("%s: %d at %d, not %d at %d", name, gotWhy, gotAt, why, at)
	}
	if !Same(u, api.Update{}) {
		t.Errorf("%s: %v beside an error", name, u)
	}
}

type spoilt struct {
	b   []byte
	why api.Errno
	at  int
}

// headFaults are faults of what stands ahead of the edits.
func headFaults() map[string]spoilt {
	h1, h2 := make([]byte, 32), bytes.Repeat([]byte{1}, 32)
	longNote := bytes.Repeat([]byte{'n'}, api.MaxNote+1)
	return map[string]spoilt{
		"no bytes":               {nil, api.ErrShort, 0},
		"three bytes":            {[]byte("EST"), api.ErrShort, 3},
		"another first byte":     {[]byte("e"), api.ErrForm, 0},
		"another second byte":    {[]byte("Es"), api.ErrForm, 1},
		"another last byte":      {[]byte("EST2"), api.ErrForm, 3},
		"another byte, then end": {[]byte("EX"), api.ErrForm, 1},
		"no parents' number":     {from(4), api.ErrShort, 4},
		"nine parents":           {from(4, 9), api.ErrLong, 4},
		"a parent cut":           {join(from(4, 1), h1[:31]), api.ErrShort, 36},
		"falling parents":        {join(from(4, 2), h2, h1), api.ErrForm, 37},
		"a parent twice":         {join(from(4, 2), h2, h2), api.ErrForm, 37},
		"no author":              {from(5), api.ErrShort, 5},
		"author 0":               {from(5, 0, 1, 0, 0, 0), api.ErrAuthor, 5},
		"author 0, then end":     {from(5, 0), api.ErrAuthor, 5},
		"author 2^32":            {from(5, 0x80, 0x80, 0x80, 0x80, 0x10), api.ErrRange, 5},
		"an author's form":       {from(5, 0x80, 0, 1), api.ErrForm, 6},
		"no Seq":                 {from(6), api.ErrShort, 6},
		"Seq 0":                  {from(6, 0), api.ErrSeq, 6},
		"Seq 2^20 + 1":           {from(6, 0x81, 0x80, 0x40), api.ErrRange, 6},
		"no time":                {from(7), api.ErrShort, 7},
		"time 2^53 + 1":          {from(7, 0x81, 0x80, 0x80, 0x80, 0x80, 0x80, 0x80, 0x10), api.ErrRange, 7},
		"no note":                {from(8), api.ErrShort, 8},
		"a note of 201 bytes":    {join(from(8, 0xc9, 1), longNote), api.ErrLong, 8},
		"a note cut":             {from(8, 2, 'n'), api.ErrShort, 10},
		"a note of no UTF-8":     {from(8, 2, 'n', 0xff, 0), api.ErrForm, 10},
		"a note's line feed":     {from(8, 2, 'n', '\n', 0), api.ErrNote, 8},
		"a note's byte 127":      {from(8, 1, 127), api.ErrNote, 8},
		"no edits' number":       {from(9), api.ErrShort, 9},
		"65 edits":               {from(9, 65), api.ErrRange, 9},
		"a byte behind":          {from(10, 0), api.ErrMore, 10},
		"more bytes behind":      {from(10, 'a', 'b', 'c'), api.ErrMore, 10},
	}
}

// P5.3, the second example
func TestDecodeFaults(t *testing.T) {
	for name, c := range headFaults() {
		checkFault(t, name, c.b, c.why, c.at)
	}
	put := []byte{1, 0, 0, 1, 'a', 2, 2}
	for name, c := range map[string]spoilt{
		"no edit":           {from(9, 1), api.ErrShort, 10},
		"an edit of no act": {from(9, 1, 11), api.ErrAct, 10},
		"a reference":       {from(9, 1, 1, 3), api.ErrForm, 11},
		"a reference's N":   {from(9, 1, 1, 1, 65), api.ErrRange, 12},
		"no key, no at":     {from(9, 1, 1, 0, 0, 0, 0), api.ErrField, 10},
		"a second edit":     {join(from(9, 2), put, []byte{10, 0}), api.ErrField, 18},
		"an edit too few":   {join(from(9, 2), put), api.ErrShort, 17},
		"an edit too many":  {join(from(9, 1), put, put), api.ErrMore, 17},
	} {
		checkFault(t, name, c.b, c.why, c.at)
	}
}

// P5.3
func TestDecodeSize(t *testing.T) {
	b, _ := Encode(sized(api.MaxUpdate))
	if u, why, at := Decode(b); why != api.OK || at != 0 || !Same(u, sized(api.MaxUpdate)) {
		t.Errorf("the greatest size: %d, %d", why, at)
	}
	checkFault(t, "the greatest size and a byte", append(b, 0), api.ErrSize, 0)
	checkFault(t, "many wrong bytes", make([]byte, 10*api.MaxUpdate), api.ErrSize, 0)
	checkFault(t, "as many wrong bytes as may be", make([]byte, api.MaxUpdate), api.ErrForm, 0)
}

// randomUpdate is a right update by chance.
func randomUpdate(r *rand.Rand) api.Update {
	u := api.Update{Author: 1 + r.Intn(3), Seq: 1 + r.Intn(3), Time: int64(r.Intn(3))}
	if r.Intn(3) == 0 {
		u.Author, u.Seq, u.Time = 1+r.Intn(api.MaxAuthor-1), 1+r.Intn(api.MaxSeq), r.Int63n(api.MaxTime+1)
	}
	u.Parents = hashList(r.Intn(4))
	u.Note = strings.Repeat("ä", r.Intn(3))
	for range r.Intn(4) {
		u.Edits = append(u.Edits, randomEdit(r))
	}
	return u
}

func randomEdit(r *rand.Rand) api.Edit {
	ref := func() api.Ref {
		return [...]api.Ref{{}, own(1 + r.Intn(64)), op(api.Hash{31: byte(r.Intn(3))}, 1+r.Intn(64))}[r.Intn(3)]
	}
	values := [...]api.Value{{}, {Kind: api.Bool, N: 1}, {Kind: api.Int, N: r.Int63() - r.Int63()}, {Kind: api.Float, F: r.NormFloat64()}, textValue("a\nb"), {Kind: api.Bytes, S: "\xff"}, {Kind: api.Counter, N: 5}, {Kind: api.String}}
	key := string(rune('a' + r.Intn(3)))
	value := values[r.Intn(len(values)-1)]
	return [...]api.Edit{
		{Act: api.Put, Obj: ref(), Key: key, Value: values[r.Intn(len(values))]},
		{Act: api.Delete, Obj: ref(), At: own(3)},
		{Act: api.Add, Obj: ref(), Key: key, N: -r.Int63()},
		{Act: api.Insert, Obj: ref(), At: ref(), Value: values[r.Intn(len(values))]},
		{Act: api.Mark, Obj: ref(), At: ref(), To: ref(), Key: key, Sides: r.Intn(4), Value: value},
		{Act: api.Grow, Obj: ref(), At: ref(), Key: key, Value: value},
		{Act: api.Move, Obj: ref(), At: op(api.Hash{}, 1), To: ref(), Key: key},
		{Act: api.Prune, Obj: ref(), At: own(64)},
		{Act: api.Grant, Who: 1 + r.Intn(9), N: 1 + r.Int63n(api.MaxRank)},
		{Act: api.Revoke, Who: 1 + r.Intn(9)},
	}[r.Intn(10)]
}

// P5.7, P5.8, P5.9
func TestOneRowOfBytesEach(t *testing.T) {
	r := rand.New(rand.NewSource(5))
	met := map[string]api.Update{}
	for range 2000 {
		u := randomUpdate(r)
		b, why := Encode(u)
		if why != api.OK {
			t.Fatalf("%v: %d", u, why)
		}
		back, why, at := Decode(b)
		if why != api.OK || at != 0 || !Same(back, u) {
			t.Fatalf("%v came back as %v, %d, %d", u, back, why, at)
		}
		if other, ok := met[string(b)]; ok != Same(other, u) {
			t.Fatalf("%v and %v: the same bytes, but not the same", u, other)
		}
		met[string(b)] = u
		cut := r.Intn(len(b))
		if _, why, at := Decode(b[:cut]); why != api.ErrShort || at != cut {
			t.Fatalf("cut to %d of %x: %d at %d", cut, b, why, at)
		}
		if _, why, at := Decode(append(b, byte(r.Intn(256)))); why != api.ErrMore || at != len(b) {
			t.Fatalf("a byte behind %x: %d at %d", b, why, at)
		}
	}
}

// P5.7, P1: whatever is taken is written just so; whatever is not has its fault within the bytes.
func TestTurnedBytes(t *testing.T) {
	r := rand.New(rand.NewSource(6))
	taken := 0
	for range 20000 {
		b, _ := Encode(randomUpdate(r))
		for range 1 + r.Intn(2) {
			b[r.Intn(len(b))] ^= 1 << r.Intn(8)
		}
		u, why, at := Decode(b)
		if why != api.OK {
			if at < 0 || at > len(b) || !Same(u, api.Update{}) {
				t.Fatalf("%x: %v, %d at %d", b, u, why, at)
			}
			continue
		}
		taken++
		again, why := Encode(u)
		if at != 0 || why != api.OK || !bytes.Equal(again, b) {
			t.Fatalf("%x is written as %x, %d", b, again, why)
		}
	}
	if taken < 1000 {
		t.Errorf("%d taken only", taken)
	}
}

// P5.7: no bytes at all but an update's are taken, of few bytes and few values.
func TestShortBytes(t *testing.T) {
	taken := 0
	var grow func(b []byte)
	grow = func(b []byte) {
		if u, why, _ := Decode(b); why == api.OK {
			taken++
			if again, why := Encode(u); why != api.OK || !bytes.Equal(again, b) {
				t.Fatalf("%x is written as %x, %d", b, again, why)
			}
		}
		if len(b) == len(leastBytes()) {
			return
		}
		for _, next := range []byte{0, 1, 2, 'n', 0x80, 0xff} {
			grow(append(slices.Clip(b), next))
		}
	}
	grow([]byte("EST1\x00\x01"))
	if taken == 0 {
		t.Error("none taken")
	}
}
