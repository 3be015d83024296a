package value

import (
	"bytes"
	"math"
	"math/rand"
	"strings"
	"testing"

	"estuary/api"
	"estuary/wire"
)

func minusZero() float64 { return math.Copysign(0, -1) }

// rising are right values of all kinds, in their order.
func rising() []api.Value {
	of := func(k api.Kind, n int64) api.Value { return api.Value{Kind: k, N: n} }
	text := func(k api.Kind, s string) api.Value { return api.Value{Kind: k, S: s} }
	float := func(f float64) api.Value { return api.Value{Kind: api.Float, F: f} }
	return []api.Value{
		of(api.Null, 0),
		of(api.Bool, 0), of(api.Bool, 1),
		of(api.Int, math.MinInt64), of(api.Int, -1), of(api.Int, 0), of(api.Int, 1), of(api.Int, math.MaxInt64),
		float(-math.MaxFloat64), float(-2.5), float(-math.SmallestNonzeroFloat64), float(0), float(math.SmallestNonzeroFloat64), float(0.1), float(1e21), float(math.MaxFloat64),
		text(api.Text, ""), text(api.Text, "\x00\n"), text(api.Text, "Z"), text(api.Text, "a"), text(api.Text, "a b"), text(api.Text, "ab"), text(api.Text, strings.Repeat("b", api.MaxText)), text(api.Text, "\uFFFD"), text(api.Text, "😀"),
		text(api.Bytes, ""), text(api.Bytes, "\x00\x10"), text(api.Bytes, "\n\xff"), text(api.Bytes, "a"), text(api.Bytes, strings.Repeat("\xff", api.MaxText)),
		of(api.Time, 0), of(api.Time, 1), of(api.Time, api.MaxTime),
		of(api.Counter, math.MinInt64), of(api.Counter, -3), of(api.Counter, 0), of(api.Counter, math.MaxInt64),
		of(api.Map, 0), of(api.List, 0), of(api.String, 0), of(api.Outline, 0),
	}
}

// wrong are values that are not right.
func wrong() []api.Value {
	l := []api.Value{
		{Kind: api.Bool, N: 2}, {Kind: api.Bool, N: -1},
		{Kind: api.Float, F: math.NaN()}, {Kind: api.Float, F: math.Inf(1)}, {Kind: api.Float, F: math.Inf(-1)}, {Kind: api.Float, F: minusZero()},
		{Kind: api.Text, S: "\xff"}, {Kind: api.Text, S: "a\xe2\x82"}, {Kind: api.Text, S: strings.Repeat("a", api.MaxText+1)},
		{Kind: api.Bytes, S: strings.Repeat("a", api.MaxText+1)},
		{Kind: api.Time, N: -1}, {Kind: api.Time, N: api.MaxTime + 1},
		{Kind: 12}, {Kind: 255},
	}
	usesN := []api.Kind{api.Bool, api.Int, api.Time, api.Counter}
	for k := api.Null; k <= api.Outline; k++ {
		if !has(usesN, k) {
			l = append(l, api.Value{Kind: k, N: 1})
		}
		if k != api.Float {
			l = append(l, api.Value{Kind: k, F: 1}, api.Value{Kind: k, F: minusZero()}, api.Value{Kind: k, F: math.NaN()})
		}
		if k != api.Text && k != api.Bytes {
			l = append(l, api.Value{Kind: k, S: "a"})
		}
	}
	return l
}

func has(l []api.Kind, k api.Kind) bool {
	return bytes.IndexByte(kinds(l), byte(k)) >= 0
}

func kinds(l []api.Kind) []byte {
	var b []byte
	for _, k := range l {
		b = append(b, byte(k))
	}
	return b
}

// same holds values against each other, floats by their bits.
func same(a, b api.Value) bool {
	return a.Kind == b.Kind && a.N == b.N && math.Float64bits(a.F) == math.Float64bits(b.F) && a.S == b.S
}

// P3.1
func TestRight(t *testing.T) {
	for _, v := range rising() {
		if e := Right(v); e != api.OK {
			t.Errorf("%v: %d", v, e)
		}
	}
	for _, v := range wrong() {
		if e := Right(v); e != api.ErrValue {
			t.Errorf("%v: %d", v, e)
		}
	}
}

// P3.1
func TestScalar(t *testing.T) {
	for k := range 256 {
		if Scalar(api.Kind(k)) != (k <= 7) {
			t.Errorf("%d: %v", k, Scalar(api.Kind(k)))
		}
	}
}

// P3.2, P3.8
func TestCompare(t *testing.T) {
	l := rising()
	for i, a := range l {
		for j, b := range l {
			want := 0
			if i < j {
				want = -1
			} else if i > j {
				want = 1
			}
			if got := Compare(a, b); got != want {
				t.Errorf("%v and %v: %d", a, b, got)
			}
		}
		for _, b := range wrong() {
			if Compare(a, b) != 0 || Compare(b, a) != 0 || Compare(b, b) != 0 {
				t.Errorf("%v and %v, which is not right", a, b)
			}
		}
	}
}

func written(t *testing.T, v api.Value) []byte {
	t.Helper()
	var w wire.Writer
	Write(&w, v)
	b, e := w.Done()
	if e != api.OK {
		t.Fatalf("%v: %d", v, e)
	}
	return b
}

// P3.3
func TestWrite(t *testing.T) {
	type want struct {
		v api.Value
		b []byte
	}
	for _, c := range []want{
		{api.Value{}, []byte{0}},
		{api.Value{Kind: api.Bool}, []byte{1, 0}},
		{api.Value{Kind: api.Bool, N: 1}, []byte{1, 1}},
		{api.Value{Kind: api.Int, N: 1}, []byte{2, 2}},
		{api.Value{Kind: api.Int, N: -1}, []byte{2, 1}},
		{api.Value{Kind: api.Float, F: 1.5}, []byte{3, 0x3f, 0xf8, 0, 0, 0, 0, 0, 0}},
		{api.Value{Kind: api.Text, S: "ab"}, []byte{4, 2, 'a', 'b'}},
		{api.Value{Kind: api.Bytes, S: "\xff\x00"}, []byte{5, 2, 0xff, 0}},
		{api.Value{Kind: api.Time, N: 300}, []byte{6, 0xac, 2}},
		{api.Value{Kind: api.Counter, N: -64}, []byte{7, 0x7f}},
		{api.Value{Kind: api.Map}, []byte{8}},
		{api.Value{Kind: api.List}, []byte{9}},
		{api.Value{Kind: api.String}, []byte{10}},
		{api.Value{Kind: api.Outline}, []byte{11}},
	} {
		if b := written(t, c.v); !bytes.Equal(b, c.b) {
			t.Errorf("%v: %x", c.v, b)
		}
	}
}

// P3.3
func TestWriteOfWrongValues(t *testing.T) {
	for _, v := range wrong() {
		var w wire.Writer
		w.Byte(7)
		Write(&w, v)
		if _, e := w.Done(); e != api.ErrValue || w.Len() != 1 {
			t.Errorf("%v: %d, Len %d", v, e, w.Len())
		}
	}
	var w wire.Writer
	w.Fail(api.ErrTalk)
	Write(&w, api.Value{Kind: api.Bool, N: 2})
	if _, e := w.Done(); e != api.ErrTalk {
		t.Errorf("a Writer that has an error: %d", e)
	}
	Write(nil, api.Value{})
	Write(nil, api.Value{Kind: 99})
}

// P3.3, P3.7
func TestReadOfWhatWasWritten(t *testing.T) {
	var w wire.Writer
	for _, v := range rising() {
		Write(&w, v)
	}
	b, _ := w.Done()
	r := wire.NewReader(b)
	for _, v := range rising() {
		if got := Read(r); !same(got, v) {
			t.Errorf("%v is read as %v", v, got)
		}
	}
	if e, at := r.Done(); e != api.OK {
		t.Errorf("Done: %d at %d", e, at)
	}
}

// P3.3
func TestReadFaults(t *testing.T) {
	long := bytes.Repeat([]byte{'a'}, api.MaxText+1)
	type want struct {
		name string
		b    []byte
		e    api.Errno
		at   int
	}
	for _, c := range []want{
		{"no kind", nil, api.ErrShort, 0},
		{"the kind 12", []byte{12}, api.ErrForm, 0},
		{"the kind 255", []byte{255, 1, 1}, api.ErrForm, 0},
		{"Bool without more", []byte{1}, api.ErrShort, 1},
		{"Bool 2", []byte{1, 2}, api.ErrForm, 1},
		{"Int 80 00", []byte{2, 0x80, 0}, api.ErrForm, 2},
		{"Int without more", []byte{2}, api.ErrShort, 1},
		{"Float -0", []byte{3, 0x80, 0, 0, 0, 0, 0, 0, 0}, api.ErrForm, 1},
		{"Float, not finite", []byte{3, 0x7f, 0xf0, 0, 0, 0, 0, 0, 0}, api.ErrForm, 1},
		{"Float, short", []byte{3, 1, 2, 3}, api.ErrShort, 4},
		{"Text, not UTF-8", []byte{4, 2, 'a', 0xff}, api.ErrForm, 3},
		{"Text, short", []byte{4, 2, 'a'}, api.ErrShort, 3},
		{"Text, long", append([]byte{4, 0xe9, 7}, long...), api.ErrLong, 1},
		{"Bytes, long", append([]byte{5, 0xe9, 7}, long...), api.ErrLong, 1},
		{"Bytes, short", []byte{5, 2, 0xff}, api.ErrShort, 3},
		{"Time, above most", []byte{6, 0x81, 0x80, 0x80, 0x80, 0x80, 0x80, 0x80, 16}, api.ErrRange, 1},
		{"Time, short", []byte{6, 0x80}, api.ErrShort, 2},
		{"Counter, short", []byte{7}, api.ErrShort, 1},
		{"Counter, the tenth byte", append(append([]byte{7}, bytes.Repeat([]byte{0xff}, 9)...), 2), api.ErrForm, 10},
	} {
		for _, ahead := range []int{0, 2} {
			r := wire.NewReader(append(make([]byte, ahead), c.b...))
			for range ahead {
				r.Byte()
			}
			v := Read(r)
			if e, at := r.Fault(); !same(v, api.Value{}) || e != c.e || at != c.at+ahead {
				t.Errorf("%s, %d bytes ahead: %v, %d at %d", c.name, ahead, v, e, at)
			}
		}
	}
}

// P3.3, P1
func TestReadOfReadersWithAFault(t *testing.T) {
	r := wire.NewReader([]byte{2, 2})
	r.Fail(api.ErrTalk, 9)
	v := Read(r)
	if e, at := r.Fault(); !same(v, api.Value{}) || e != api.ErrTalk || at != 9 || r.At() != 0 {
		t.Errorf("%v, %d at %d", v, e, at)
	}
	if v := Read(nil); !same(v, api.Value{}) {
		t.Errorf("of a nil Reader: %v", v)
	}
}

// P3.3: what is read is right, and there is one way only to write it.
func TestReadOfAnyBytes(t *testing.T) {
	source := rand.New(rand.NewSource(5))
	read := 0
	for range 100000 {
		b := make([]byte, 1+source.Intn(12))
		source.Read(b)
		b[0] %= 14
		r := wire.NewReader(b)
		v := Read(r)
		if e, _ := r.Fault(); e != api.OK {
			continue
		}
		read++
		if got := written(t, v); Right(v) != api.OK || !bytes.Equal(got, b[:r.At()]) {
			t.Fatalf("%x is read as %v, which is written as %x", b, v, got)
		}
	}
	if read < 10000 {
		t.Errorf("only %d were read", read)
	}
}

// P3.6
func TestSum(t *testing.T) {
	count := func(n int64) api.Value { return api.Value{Kind: api.Counter, N: n} }
	if Sum(count(5), -7) != count(-2) || Sum(count(math.MaxInt64), 1) != count(math.MinInt64) || Sum(count(math.MinInt64), -1) != count(math.MaxInt64) || Sum(count(3), 0) != count(3) {
		t.Error("sums of counters")
	}
	for _, v := range append(rising(), wrong()...) {
		if got := Sum(v, 9); (v.Kind != api.Counter || Right(v) != api.OK) && !same(got, v) {
			t.Errorf("%v becomes %v", v, got)
		}
	}
}

// P3.6
func TestNames(t *testing.T) {
	l := strings.Fields("null bool int float text bytes time counter map list string outline")
	for k := range 256 {
		want := ""
		if k < len(l) {
			want = l[k]
		}
		if got := Name(api.Kind(k)); got != want {
			t.Errorf("%d: %q", k, got)
		}
	}
	for k, name := range l {
		if got, e := KindOf(name); int(got) != k || e != api.OK {
			t.Errorf("%s: %d, %d", name, got, e)
		}
	}
	for _, name := range []string{"", "Null", "nul", "text ", "object"} {
		if got, e := KindOf(name); got != 0 || e != api.ErrNone {
			t.Errorf("%q: %d, %d", name, got, e)
		}
	}
}
