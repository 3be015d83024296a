package parley

import (
	"bytes"
	"math/rand"
	"slices"
	"testing"

	"estuary/api"
)

func join(l ...[]byte) []byte { return bytes.Join(l, nil) }

func raw(h api.Hash) []byte { return h[:] }

// P22.5: what is written where
func TestEncode(t *testing.T) {
	if b, why := Encode(api.Message{}); why != api.OK || !bytes.Equal(b, []byte{0, 0, 0, 0, 0}) {
		t.Errorf("the empty one: %x, %d", b, why)
	}
	x, y := api.Hash{1}, api.Hash{2}
	m := api.Message{Heads: []api.Hash{x, y}, Need: []api.Hash{y}, Since: []api.Hash{x}, Filter: []byte{8, 2, 1, 5}, Updates: [][]byte{{9, 9}, nil, make([]byte, 200)}}
	want := join([]byte{2}, raw(x), raw(y), []byte{1}, raw(y), []byte{1}, raw(x), []byte{4, 8, 2, 1, 5}, []byte{3, 2, 9, 9, 0, 0xc8, 1}, make([]byte, 200))
	b, why := Encode(m)
	if why != api.OK || !bytes.Equal(b, want) {
		t.Errorf("%x, %d", b, why)
	}
	back, why, at := Decode(want)
	if why != api.OK || at != 0 {
		t.Fatalf("Decode: %d at %d", why, at)
	}
	sameMessage(t, "Decode", back, m)
}

// P22.5: the faults, from the left
func TestDecodeRefuses(t *testing.T) {
	x, y := raw(api.Hash{1}), raw(api.Hash{2})
	many := []byte{0x81, 0x20} // 4097
	for name, c := range map[string]struct {
		b   []byte
		why api.Errno
		at  int
	}{
		"nothing":                       {nil, api.ErrShort, 0},
		"Heads alone":                   {[]byte{0}, api.ErrShort, 1},
		"Heads cut":                     {join([]byte{2}, x, y[:31]), api.ErrShort, 64},
		"Heads, a number cut":           {[]byte{0x80}, api.ErrShort, 1},
		"Heads, a number of wrong form": {[]byte{0x80, 0, 0}, api.ErrForm, 1},
		"Heads that fall":               {join([]byte{2}, y, x, []byte{0, 0, 0, 0}), api.ErrForm, 33},
		"Heads twice":                   {join([]byte{2}, x, x, []byte{0, 0, 0, 0}), api.ErrForm, 33},
		"Heads, too many":               {many, api.ErrLong, 0},
		"Heads, just so many":           {[]byte{0x80, 0x20}, api.ErrShort, 2},
		"Need cut":                      {join([]byte{0, 1}, x[:30]), api.ErrShort, 32},
		"Need that falls":               {join([]byte{0, 2}, y, x, []byte{0, 0, 0}), api.ErrForm, 34},
		"Need, too many":                {join([]byte{0}, many), api.ErrLong, 1},
		"Need, just so many":            {[]byte{0, 0x80, 0x20}, api.ErrShort, 3},
		"Since alone":                   {[]byte{0, 0}, api.ErrShort, 2},
		"Since that falls":              {join([]byte{0, 0, 2}, y, x, []byte{0, 0}), api.ErrForm, 35},
		"Since, too many":               {join([]byte{0, 0}, many), api.ErrLong, 2},
		"Since, just so many":           {[]byte{0, 0, 0x80, 0x20}, api.ErrShort, 4},
		"no length of a filter":         {[]byte{0, 0, 0}, api.ErrShort, 3},
		"a filter cut":                  {[]byte{0, 0, 0, 4, 8, 1, 1}, api.ErrShort, 7},
		"a filter that is long":         {[]byte{0, 0, 0, 0x81, 0x80, 4}, api.ErrLong, 3},
		"a filter not too long, cut":    {[]byte{0, 0, 0, 0x80, 0x80, 4}, api.ErrShort, 6},
		"no filter, as long as may be":  {join([]byte{0, 0, 0, 0x80, 0x80, 4}, make([]byte, api.MaxFilter), []byte{0}), api.ErrTalk, 3},
		"no filter":                     {[]byte{0, 0, 0, 1, 7, 0}, api.ErrTalk, 3},
		"no filter, and nothing behind": {[]byte{0, 0, 0, 1, 7}, api.ErrTalk, 3},
		"no filter, behind a head":      {join([]byte{1}, x, []byte{0, 0, 4, 12, 1, 1, 0, 99}), api.ErrTalk, 35},
		"a filter with a byte behind":   {[]byte{0, 0, 0, 5, 8, 1, 1, 0, 0, 0}, api.ErrTalk, 3},
		"no number of updates":          {[]byte{0, 0, 0, 0}, api.ErrShort, 4},
		"too many updates":              {join([]byte{0, 0, 0, 0, 65}, make([]byte, 65)), api.ErrRange, 4},
		"a number of wrong form":        {[]byte{0, 0, 0, 0, 0x81, 0, 0}, api.ErrForm, 5},
		"no update":                     {[]byte{0, 0, 0, 0, 1}, api.ErrShort, 5},
		"an update cut":                 {[]byte{0, 0, 0, 0, 2, 0, 2, 1}, api.ErrShort, 8},
		"an update that is long":        {[]byte{0, 0, 0, 0, 2, 0, 0x81, 0x80, 4}, api.ErrLong, 6},
		"an update not too long, cut":   {[]byte{0, 0, 0, 0, 2, 0, 0x80, 0x80, 4}, api.ErrShort, 9},
		"more behind":                   {[]byte{0, 0, 0, 0, 0, 9}, api.ErrMore, 5},
		"more behind updates":           {[]byte{0, 0, 0, 0, 1, 1, 9, 9}, api.ErrMore, 7},
	} {
		m, why, at := Decode(c.b)
		if why != c.why || at != c.at {
			t.Errorf("%s: %d at %d, not %d at %d", name, why, at, c.why, c.at)
		}
		sameMessage(t, name, m, api.Message{})
	}
	if _, why, at := Decode(join([]byte{0, 0, 0, 0, 64}, make([]byte, 64))); why != api.OK || at != 0 {
		t.Errorf("64 updates: %d at %d", why, at)
	}
}

// P22.9
func TestThereAndBack(t *testing.T) {
	taken := 0
	for seed := range int64(400) {
		r := rand.New(rand.NewSource(seed))
		w := anyWorld(t, r, 1+r.Intn(8), 2, 3)
		m := w.anyMessage(r, fresh(t, 1))
		b, why := Encode(m)
		if why != api.OK {
			t.Fatalf("Encode: %d", why)
		}
		back, why, at := Decode(b)
		if why != api.OK || at != 0 {
			t.Fatalf("Decode: %d at %d", why, at)
		}
		sameMessage(t, "back", back, m)
		for range 20 {
			spoilt := slices.Clone(b)
			spoilt[r.Intn(len(b))] ^= byte(1 << r.Intn(8))
			if r.Intn(4) == 0 {
				spoilt = spoilt[:r.Intn(len(spoilt))]
			}
			m, why, _ := Decode(spoilt)
			if why != api.OK {
				continue
			}
			taken++
			if again, why := Encode(m); why != api.OK || !bytes.Equal(again, spoilt) {
				t.Fatalf("%x was taken, and is written as %x, %d", spoilt, again, why)
			}
		}
	}
	if taken == 0 {
		t.Error("nothing spoilt was taken")
	}
}

// P3
func TestBytesShareNothing(t *testing.T) {
	m := api.Message{Heads: []api.Hash{{1}}, Filter: []byte{8, 2, 1, 5}, Updates: [][]byte{{9, 9}}}
	b, _ := Encode(m)
	was := slices.Clone(b)
	m.Heads[0], m.Filter[3], m.Updates[0][0] = api.Hash{2}, 6, 8
	if !bytes.Equal(b, was) {
		t.Error("Encode shares what it is handed")
	}
	back, _, _ := Decode(b)
	clear(b[:cap(b)])
	if again, _ := Encode(back); !bytes.Equal(again, was) {
		t.Error("Decode keeps what it is handed")
	}
}
