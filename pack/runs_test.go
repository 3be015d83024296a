package pack

import (
	"bytes"
	"encoding/binary"
	"math"
	"math/rand"
	"slices"
	"testing"

	"estuary/api"
)

// anyNumbers are up to so many, with runs and rows.
func anyNumbers(r *rand.Rand, most int) []uint64 {
	var l []uint64
	for size := r.Intn(most + 1); len(l) < size; {
		x := pick(r, 0, 1, 2, uint64(r.Intn(300)), r.Uint64(), math.MaxUint64)
		for range pick(r, 1, 1, 1, 2, 3, 1+r.Intn(200)) {
			l = append(l, x)
		}
	}
	return l
}

func anySigned(r *rand.Rand, most int) []int64 {
	var l []int64
	for _, x := range anyNumbers(r, most) {
		l = append(l, pick(r, int64(x), int64(len(l)), math.MinInt64, math.MaxInt64))
	}
	return l
}

// P23.1, the first example
func TestRuns(t *testing.T) {
	for _, c := range []struct {
		l []uint64
		b string
	}{
		{nil, ""},
		{[]uint64{}, ""},
		{[]uint64{5}, "\x01\x05"},
		{[]uint64{0}, "\x01\x00"},
		{[]uint64{5, 5}, "\x04\x05"},
		{[]uint64{7, 7, 7, 1, 2}, "\x06\x07\x03\x01\x02"},
		{[]uint64{1, 2, 2}, "\x01\x01\x04\x02"},
		{[]uint64{1, 1, 2, 2}, "\x04\x01\x04\x02"},
		{[]uint64{1, 1, 2, 3, 3}, "\x04\x01\x01\x02\x04\x03"},
		{[]uint64{1, 2, 1, 2}, "\x07\x01\x02\x01\x02"},
		{[]uint64{300, math.MaxUint64}, "\x03\xac\x02\xff\xff\xff\xff\xff\xff\xff\xff\xff\x01"},
		{slices.Repeat([]uint64{9}, 64), "\x80\x01\x09"},
	} {
		if b := Runs(c.l); string(b) != c.b {
			t.Errorf("Runs(%v) = %x, not %x", c.l, b, c.b)
		}
		if l, why, at := UnRuns([]byte(c.b), len(c.l)); why != api.OK || at != 0 || !slices.Equal(l, c.l) {
			t.Errorf("UnRuns(%x) = %v, %d, %d", c.b, l, why, at)
		}
	}
}

// P23.1, the first example
func TestDeltas(t *testing.T) {
	for _, c := range []struct {
		l []int64
		b string
	}{
		{nil, ""},
		{[]int64{0}, "\x01\x00"},
		{[]int64{-1}, "\x01\x01"},
		{[]int64{10, 11, 12}, "\x01\x14\x04\x02"},
		{[]int64{1, 1, 1}, "\x01\x02\x04\x00"},
		{[]int64{0, -1, -2, 5}, "\x01\x00\x04\x01\x01\x0e"},
		{[]int64{math.MaxInt64, math.MinInt64}, "\x03\xfe\xff\xff\xff\xff\xff\xff\xff\xff\x01\x02"},
		{[]int64{math.MinInt64, math.MaxInt64}, "\x03\xff\xff\xff\xff\xff\xff\xff\xff\xff\x01\x01"},
	} {
		if b := Deltas(c.l); string(b) != c.b {
			t.Errorf("Deltas(%v) = %x, not %x", c.l, b, c.b)
		}
		if l, why, at := UnDeltas([]byte(c.b), len(c.l)); why != api.OK || at != 0 || !slices.Equal(l, c.l) {
			t.Errorf("UnDeltas(%x) = %v, %d, %d", c.b, l, why, at)
		}
	}
}

// P23.1, P23.5
func TestRunsByChance(t *testing.T) {
	for seed := range int64(3000) {
		r := rand.New(rand.NewSource(seed))
		l := anyNumbers(r, pick(r, 3, 10, 300))
		b := Runs(l)
		if !bytes.Equal(b, wireRuns(l)) {
			t.Fatalf("Runs(%v) = %x", l, b)
		}
		if back, why, at := UnRuns(b, len(l)); why != api.OK || at != 0 || !slices.Equal(back, l) {
			t.Fatalf("UnRuns(%x) = %v, %d, %d", b, back, why, at)
		}
		signed := anySigned(r, pick(r, 3, 10, 300))
		b = Deltas(signed)
		if !bytes.Equal(b, wireDeltas(signed)) {
			t.Fatalf("Deltas(%v) = %x", signed, b)
		}
		if back, why, at := UnDeltas(b, len(signed)); why != api.OK || at != 0 || !slices.Equal(back, signed) {
			t.Fatalf("UnDeltas(%x) = %v, %d, %d", b, back, why, at)
		}
	}
}

// checkRuns holds UnRuns and UnDeltas of some bytes against the chapter's words.
func checkRuns(t *testing.T, b []byte, n int) {
	t.Helper()
	want, wantWhy, wantAt := wireUnRuns(b, n)
	if l, why, at := UnRuns(b, n); why != wantWhy || at != wantAt || !slices.Equal(l, want) {
		t.Fatalf("UnRuns(%x, %d) = %v, %d, %d, not %v, %d, %d", b, n, l, why, at, want, wantWhy, wantAt)
	}
	signed, wantWhy, wantAt := wireUnDeltas(b, n)
	if l, why, at := UnDeltas(b, n); why != wantWhy || at != wantAt || !slices.Equal(l, signed) {
		t.Fatalf("UnDeltas(%x, %d) = %v, %d, %d, not %v, %d, %d", b, n, l, why, at, signed, wantWhy, wantAt)
	}
}

// P23.1: all short rows of some bytes
func TestAllShortRuns(t *testing.T) {
	level := [][]byte{nil}
	for range 6 {
		var longer [][]byte
		for _, b := range level {
			for n := range 6 {
				checkRuns(t, b, n)
			}
			for _, x := range []byte{0, 1, 2, 3, 4, 6, 0x81} {
				longer = append(longer, append(slices.Clip(b), x))
			}
		}
		level = longer
	}
}

// P23.1: runs that were spoilt
func TestSpoiltRuns(t *testing.T) {
	for seed := range int64(20000) {
		r := rand.New(rand.NewSource(seed))
		l := anyNumbers(r, 12)
		b := Runs(l)
		for range 1 + r.Intn(2) {
			at := r.Intn(len(b) + 1)
			switch {
			case at == len(b) || r.Intn(3) == 0:
				b = slices.Insert(b, at, byte(r.Intn(256)))
			case r.Intn(2) == 0:
				b = slices.Delete(b, at, at+1)
			default:
				b[at] = pick(r, b[at]^1, b[at]+2, byte(r.Intn(256)))
			}
		}
		for _, n := range []int{len(l), len(l) + 1, len(l) - 1, r.Intn(400)} {
			checkRuns(t, b, n)
		}
	}
}

// P23.1, P2: each fault, and its place
func TestRunFaults(t *testing.T) {
	least := "\xff\xff\xff\xff\xff\xff\xff\xff\xff\x01" // -2^63
	for name, c := range map[string]struct {
		b   string
		n   int
		why api.Errno
		at  int
	}{
		"below 0":                     {"\x06\x07", -1, api.ErrRange, 0},
		"below 0, of none":            {"", math.MinInt, api.ErrRange, 0},
		"fewer":                       {"\x04\x07", 3, api.ErrColumn, 2},
		"none":                        {"", 1, api.ErrColumn, 0},
		"more":                        {"\x06\x07", 2, api.ErrColumn, 0},
		"more by a row":               {"\x03\x07\x08", 1, api.ErrColumn, 0},
		"more than none":              {"\x01\x07", 0, api.ErrColumn, 0},
		"more, behind others":         {"\x04\x07\x03\x01\x02", 3, api.ErrColumn, 2},
		"more, and no number":         {"\x06", 2, api.ErrColumn, 0},
		"no times":                    {"\x00\x07", 1, api.ErrForm, 0},
		"no times, of none":           {"\x00\x07", 0, api.ErrForm, 0},
		"once":                        {"\x02\x07", 1, api.ErrForm, 0},
		"once, of none":               {"\x02\x07", 0, api.ErrForm, 0},
		"once, behind":                {"\x04\x07\x02\x08", 3, api.ErrForm, 2},
		"a count's end":               {"\x04\x07\x80", 3, api.ErrShort, 3},
		"a count's form":              {"\x04\x07\x80\x00", 3, api.ErrForm, 3},
		"a count that is too long":    {"\xff\xff\xff\xff\xff\xff\xff\xff\xff\x02", 3, api.ErrForm, 9},
		"no number of a run":          {"\x04", 2, api.ErrShort, 1},
		"no number of a row":          {"\x03\x07", 2, api.ErrShort, 2},
		"a number's end":              {"\x03\x07\x80", 2, api.ErrShort, 3},
		"a number's form":             {"\x03\x80\x00", 2, api.ErrForm, 2},
		"alike in a row":              {"\x03\x07\x07", 2, api.ErrForm, 0},
		"alike in a row, later":       {"\x04\x01\x05\x07\x08\x08", 5, api.ErrForm, 2},
		"a row behind a row":          {"\x01\x07\x01\x08", 2, api.ErrForm, 2},
		"a run goes on":               {"\x04\x07\x04\x07", 4, api.ErrForm, 2},
		"a run goes on as a row":      {"\x04\x07\x01\x07", 3, api.ErrForm, 2},
		"a row's end goes on":         {"\x03\x06\x07\x04\x07", 4, api.ErrForm, 3},
		"a fault ahead of the form":   {"\x01\x07\x01\x80\x00", 2, api.ErrForm, 4},
		"an end ahead of the form":    {"\x01\x07\x01", 2, api.ErrShort, 3},
		"the form ahead of more":      {"\x01\x07\x01\x08\x00", 2, api.ErrForm, 2},
		"the form ahead of fewer":     {"\x03\x07\x07", 3, api.ErrForm, 0},
		"the least count":             {least, math.MaxInt, api.ErrColumn, 0},
		"the least count, of none":    {least, 0, api.ErrColumn, 0},
		"a long row of few bytes":     {"\xfd\xff\xff\xff\xff\xff\xff\xff\xff\x01\x01\x02", math.MaxInt, api.ErrShort, 12},
		"a long run is too short":     {"\xfe\xff\xff\xff\xff\xff\xff\xff\x7f\x01", math.MaxInt, api.ErrColumn, 10},
		"a long run, then a fault":    {"\xfe\xff\xff\xff\xff\xff\xff\xff\x7f\x01\x00", math.MaxInt, api.ErrForm, 10},
		"two long runs are too many":  {"\xfe\xff\xff\xff\xff\xff\xff\xff\xff\x01\x01\x04\x02", math.MaxInt, api.ErrColumn, 11},
		"many long runs, then an end": {"\xfe\xff\xff\xff\xff\xff\x7f\x01\xfe\xff\xff\xff\xff\xff\x7f\x02\x04", math.MaxInt, api.ErrShort, 17},
	} {
		if l, why, at := UnRuns([]byte(c.b), c.n); why != c.why || at != c.at || len(l) > 0 {
			t.Errorf("%s: UnRuns = %v, %d, %d, not %d, %d", name, l, why, at, c.why, c.at)
		}
		if l, why, at := UnDeltas([]byte(c.b), c.n); why != c.why || at != c.at || len(l) > 0 {
			t.Errorf("%s: UnDeltas = %v, %d, %d, not %d, %d", name, l, why, at, c.why, c.at)
		}
	}
}

// P23.7
func TestRunsAreShort(t *testing.T) {
	for _, n := range []int{1, 2, 63, 64, 8191, 8192, 1 << 20} {
		for _, x := range []uint64{0, 127, 128, math.MaxUint64} {
			b := Runs(slices.Repeat([]uint64{x}, n))
			if len(b) > 20 {
				t.Errorf("%d times %d: %d bytes", n, x, len(b))
			}
			if l, why, _ := UnRuns(b, n); why != api.OK || len(l) != n || l[n-1] != x {
				t.Errorf("%d times %d: %d, %d", n, x, len(l), why)
			}
		}
	}
}

// P3: what is handed in stays, and what is answered is memory of its own
func TestRunsAreNewMemory(t *testing.T) {
	numbers := []uint64{1, 1, 2, 3, 99}
	signed := []int64{-1, 1, 2, 3, 99}
	runs, deltas := Runs(numbers[:4]), Deltas(signed[:4])
	bytesOf := func() string { return string(runs) + string(deltas) }
	first := bytesOf()
	for range 2 {
		l, _, _ := UnRuns(runs, 4)
		s, _, _ := UnDeltas(deltas, 4)
		if !slices.Equal(l, numbers[:4]) || !slices.Equal(s, signed[:4]) {
			t.Errorf("%v, %v", l, s)
		}
		clear(l[:cap(l)])
		clear(s[:cap(s)])
		for _, b := range [][]byte{Runs(numbers[:4]), Deltas(signed[:4])} {
			clear(b[:cap(b)])
		}
	}
	if bytesOf() != first || numbers[4] != 99 || signed[4] != 99 || numbers[0] != 1 || signed[0] != -1 {
		t.Error("what was handed in is changed")
	}
	b := binary.AppendUvarint(Runs(numbers), 77)
	UnRuns(b[:len(b)-1], 5)
	if b[len(b)-1] != 77 {
		t.Error("what stands behind the bytes is changed")
	}
}
