package keys

import (
	"bytes"
	"crypto/hmac"
	"crypto/sha256"
	"slices"
	"strings"
	"testing"

	"estuary/api"
	"estuary/digest"
	"estuary/edit"
	"estuary/update"
)

func up(l ...api.Hash) []api.Hash {
	l = slices.Clone(l)
	slices.SortFunc(l, digest.Compare)
	return slices.Compact(l)
}

func encoded(t *testing.T, u api.Update) []byte {
	t.Helper()
	b, why := update.Encode(u)
	if why != api.OK {
		t.Fatalf("Encode(%v): %d", u, why)
	}
	return b
}

// said1 is the bytes of author 1's first update, with a note.
func said1(t *testing.T, note string) []byte {
	t.Helper()
	return encoded(t, api.Update{Author: 1, Seq: 1, Note: note})
}

func ringOf(t *testing.T, l ...api.Holder) *Ring {
	t.Helper()
	r, why := NewRing(l)
	if r == nil || why != api.OK {
		t.Fatalf("NewRing(%v): %d", l, why)
	}
	return r
}

func sealedBy(t *testing.T, k api.Key, b []byte) []byte {
	t.Helper()
	s, why := Seal(k, b)
	if why != api.OK {
		t.Fatalf("Seal: %d", why)
	}
	return s
}

// largest is an update of just so many bytes as one may have.
func largest(t *testing.T, note string) api.Update {
	t.Helper()
	u := api.Update{Author: 1, Seq: 1, Note: note}
	for len(u.Edits) < api.MaxEdits {
		u.Edits = append(u.Edits, api.Edit{Act: api.Put, Key: strings.Repeat("k", api.MaxKey), Value: api.Value{Kind: api.Text, S: strings.Repeat("v", 900)}})
	}
	for i := 0; len(encoded(t, u)) < api.MaxUpdate; i++ {
		lacks := api.MaxUpdate - len(encoded(t, u))
		u.Edits[i].Value.S += strings.Repeat("v", min(lacks, api.MaxText-900))
	}
	return u
}

// withSpare is the same bytes with room behind them, and what stands there.
func withSpare(b []byte) ([]byte, []byte) {
	room := append(slices.Clone(b), bytes.Repeat([]byte{0xaa}, 200)...)
	return room[:len(b)], room[len(b):]
}

func untouched(spare []byte) bool {
	return bytes.Count(spare, []byte{0xaa}) == len(spare)
}

// P25.1, the second example
func TestDerive(t *testing.T) {
	for _, secret := range []string{"", "a", "b", "key:", "a longer one, with blanks", "\x00\xff\n", strings.Repeat("x", 100000)} {
		if k := Derive(secret); k != sha256.Sum256([]byte("key:"+secret)) {
			t.Errorf("Derive(%.20q) = %x", secret, k)
		}
	}
}

// P25.1, P2: a wrong author is told ahead of one who comes twice, wherever they stand.
func TestNewRing(t *testing.T) {
	k := Derive("k")
	for name, x := range map[string]struct {
		authors []int
		why     api.Errno
	}{
		"none":                       {nil, api.OK},
		"the least":                  {[]int{1}, api.OK},
		"the greatest":               {[]int{api.MaxAuthor - 1}, api.OK},
		"many, not rising":           {[]int{9, 3, 700, 1}, api.OK},
		"0":                          {[]int{0}, api.ErrAuthor},
		"below 0":                    {[]int{-1}, api.ErrAuthor},
		"too great":                  {[]int{api.MaxAuthor}, api.ErrAuthor},
		"far too great":              {[]int{1 << 62}, api.ErrAuthor},
		"one of many":                {[]int{1, 2, 3, 0, 4}, api.ErrAuthor},
		"twice":                      {[]int{1, 1}, api.ErrKnown},
		"twice, not side by side":    {[]int{5, 1, 2, 5}, api.ErrKnown},
		"twice, and a wrong one":     {[]int{2, 2, 0}, api.ErrAuthor},
		"a wrong one, and one twice": {[]int{api.MaxAuthor, 2, 2}, api.ErrAuthor},
		"a wrong one twice":          {[]int{0, 0}, api.ErrAuthor},
	} {
		var l []api.Holder
		for _, a := range x.authors {
			l = append(l, api.Holder{Author: a, Key: k})
		}
		if r, why := NewRing(l); why != x.why || (r == nil) != (why != api.OK) {
			t.Errorf("%s: %v, %d", name, r, why)
		}
	}
	if _, why := NewRing([]api.Holder{{Author: 1, Key: k}, {Author: 1, Key: Derive("other")}}); why != api.ErrKnown {
		t.Errorf("one author with two keys: %d", why)
	}
}

// P3: a ring does not lean on the list that it was made of.
func TestRingIsApart(t *testing.T) {
	k := Derive("k")
	l := []api.Holder{{Author: 1, Key: k}}
	r := ringOf(t, l...)
	l[0] = api.Holder{Author: 2, Key: Derive("other")}
	if _, who, why := r.Open(sealedBy(t, k, said1(t, ""))); who != 1 || why != api.OK {
		t.Errorf("%d, %d", who, why)
	}
}

// wrong are bytes of no update, with what update.Decode tells of them.
func wrong(t *testing.T) map[string][]byte {
	t.Helper()
	b := said1(t, "x")
	return map[string][]byte{
		"nothing":         nil,
		"cut":             b[:len(b)-1],
		"a byte behind":   append(slices.Clone(b), 0),
		"another magic":   append([]byte("EST2"), b[4:]...),
		"no author":       append(append(slices.Clone(b[:5]), 0), b[6:]...),
		"too many":        make([]byte, api.MaxUpdate+1),
		"the author 2^32": append(append(slices.Clone(b[:5]), 0x80, 0x80, 0x80, 0x80, 0x10), b[6:]...),
	}
}

// P25.2
func TestSeal(t *testing.T) {
	for name, b := range wrong(t) {
		_, want, _ := update.Decode(b)
		if s, why := Seal(Derive("k"), b); len(s) > 0 || why != want || why == api.OK {
			t.Errorf("%s: %x, %d, not %d", name, s, why, want)
		}
	}
	all := [][]byte{said1(t, ""), encoded(t, api.Update{Author: api.MaxAuthor - 1, Seq: api.MaxSeq, Time: api.MaxTime}), encoded(t, largest(t, ""))}
	for _, k := range []api.Key{{}, Derive(""), Derive("k")} {
		for _, b := range all {
			mac := hmac.New(sha256.New, k[:])
			mac.Write(b)
			if s := sealedBy(t, k, b); !bytes.Equal(s, mac.Sum(slices.Clone(b))) {
				t.Errorf("sealed: %x", s)
			}
		}
	}
}

// P25.6, P25.2
func TestOpen(t *testing.T) {
	one, far := Derive("one"), Derive("far")
	r := ringOf(t, api.Holder{Author: 1, Key: one}, api.Holder{Author: 300, Key: far}, api.Holder{Author: 4})
	put, _, _ := edit.Parse(`put . . "a" "text"`)
	for _, x := range []struct {
		key api.Key
		u   api.Update
	}{
		{one, api.Update{Author: 1, Seq: 1}},
		{one, api.Update{Author: 1, Seq: 7, Parents: []api.Hash{{1}, {2}}, Note: "n", Edits: []api.Edit{put}}},
		{far, api.Update{Author: 300, Seq: 1}},
		{api.Key{}, api.Update{Author: 4, Seq: 1}},
		{one, largest(t, "")},
	} {
		b := encoded(t, x.u)
		if got, who, why := r.Open(sealedBy(t, x.key, b)); !bytes.Equal(got, b) || who != x.u.Author || why != api.OK {
			t.Errorf("author %d: %x, %d, %d", x.u.Author, got, who, why)
		}
	}
}

// refusedOpen asks Open of a ring for an error, with nothing beside it.
func refusedOpen(t *testing.T, name string, r *Ring, b []byte, want api.Errno) {
	t.Helper()
	if got, who, why := r.Open(b); why != want || len(got) > 0 || who != 0 {
		t.Errorf("%s: %x, %d, %d, not %d", name, got, who, why, want)
	}
}

// P25.2, P25.5, P2: of several errors the first.
func TestOpenRefuses(t *testing.T) {
	k := Derive("k")
	r := ringOf(t, api.Holder{Author: 1, Key: k})
	s := sealedBy(t, k, said1(t, "x"))
	for n := range tagSize {
		refusedOpen(t, "short", r, s[:n], api.ErrShort)
		refusedOpen(t, "only a part of the tag", r, s[len(s)-n:], api.ErrShort)
	}
	for name, b := range wrong(t) {
		_, want, _ := update.Decode(b)
		refusedOpen(t, name, r, append(slices.Clone(b), make([]byte, tagSize)...), want)
	}
	alien := encoded(t, api.Update{Author: 2, Seq: 1})
	refusedOpen(t, "an author without a key", r, sealedBy(t, k, alien), api.ErrKey)
	refusedOpen(t, "without a key, nor a tag", r, append(slices.Clone(alien), make([]byte, tagSize)...), api.ErrKey)
	refusedOpen(t, "a tag by another key", r, sealedBy(t, Derive("other"), said1(t, "x")), api.ErrTag)
	refusedOpen(t, "a tag of other bytes", r, append(said1(t, "y"), s[len(s)-tagSize:]...), api.ErrTag)
	refusedOpen(t, "an empty ring", ringOf(t), s, api.ErrKey)
	refusedOpen(t, "no ring", nil, s, api.ErrNil)
	refusedOpen(t, "no ring, no bytes", nil, nil, api.ErrNil)
}

// P25.2: whatever is spoilt of sealed bytes, they are not opened.
func TestOpenSpoilt(t *testing.T) {
	k := Derive("k")
	r := ringOf(t, api.Holder{Author: 1, Key: k})
	s := sealedBy(t, k, said1(t, "x"))
	for i := range s {
		for bit := range 8 {
			b := slices.Clone(s)
			b[i] ^= 1 << bit
			_, _, why := r.Open(b)
			if why == api.OK || i >= len(s)-tagSize && why != api.ErrTag {
				t.Errorf("byte %d, bit %d: %d", i, bit, why)
			}
		}
	}
}

// P3: what is handed in stays as it is, with the room behind it; answers are new memory.
func TestSealedIsApart(t *testing.T) {
	k := Derive("k")
	r := ringOf(t, api.Holder{Author: 1, Key: k})
	b, spare := withSpare(said1(t, "x"))
	s, spareSealed := withSpare(sealedBy(t, k, b))
	got, _, _ := r.Open(s)
	again, _, _ := r.Open(s)
	got[0], got = 0, append(got, 1, 2, 3)
	if !untouched(spare) || !untouched(spareSealed) || s[0] != 'E' || again[0] != 'E' || b[0] != 'E' {
		t.Error("Open shares memory")
	}
	first := sealedBy(t, k, b)
	first[0], first = 0, append(first, 1)
	if !untouched(spare) || b[0] != 'E' || sealedBy(t, k, b)[0] != 'E' {
		t.Error("Seal shares memory")
	}
}
