package wire

import (
	"bytes"
	"math"
	"math/rand"
	"testing"

	"estuary/api"
)

func join(l ...[]byte) []byte {
	return bytes.Join(l, nil)
}

func raw(h api.Hash) []byte {
	return h[:]
}

// P2.2
func TestReads(t *testing.T) {
	h, g := api.Hash{1, 2}, api.Hash{3, 4}
	b := join([]byte{7, 1, 0, 0, 0, 1, 2, 0xac, 2, 1, 0x3f, 0xf8, 0, 0, 0, 0, 0, 0, 3, 0xe2, 0x82, 0xac, 2, 0xff, 0}, h[:], []byte{2}, h[:], g[:])
	r := NewReader(b)
	at := 0
	step := func(name string, ok bool, size int) {
		t.Helper()
		at += size
		if e, place := r.Fault(); !ok || e != api.OK || place != 0 || r.At() != at || r.Left() != len(b)-at {
			t.Fatalf("%s: %v, fault %d at %d, At %d, Left %d", name, ok, e, place, r.At(), r.Left())
		}
	}
	step("nothing", true, 0)
	step("Byte", r.Byte() == 7, 1)
	step("Bool true", r.Bool(), 1)
	step("Bool false", !r.Bool(), 1)
	step("Fix32", r.Fix32() == 258, 4)
	step("Uint", r.Uint(300) == 300, 2)
	step("Int", r.Int() == -1, 1)
	step("Float", r.Float() == 1.5, 8)
	step("Text", r.Text(3) == "€", 4)
	step("Raw", bytes.Equal(r.Raw(2), []byte{0xff, 0}), 3)
	step("Hash", r.Hash() == h, 32)
	if e, place := r.Done(); e != api.ErrMore || place != at {
		t.Errorf("Done with bytes left: %d at %d", e, place)
	}
	l := r.Hashes(2)
	step("Hashes", len(l) == 2 && l[0] == h && l[1] == g, 65)
	if e, place := r.Done(); e != api.OK || place != 0 {
		t.Errorf("Done: %d at %d", e, place)
	}
}

type fault struct {
	name string
	b    []byte
	read func(*Reader) bool // tells whether the answer is zero
	e    api.Errno
	at   int
}

func readByte(r *Reader) bool  { return r.Byte() == 0 }
func readBool(r *Reader) bool  { return !r.Bool() }
func readFix(r *Reader) bool   { return r.Fix32() == 0 }
func readUint(r *Reader) bool  { return r.Uint(math.MaxUint64) == 0 }
func readInt(r *Reader) bool   { return r.Int() == 0 }
func readFloat(r *Reader) bool { return r.Float() == 0 }
func readHash(r *Reader) bool  { return r.Hash() == api.Hash{} }

func readUintTo(most uint64) func(*Reader) bool {
	return func(r *Reader) bool { return r.Uint(most) == 0 }
}
func readText(most int) func(*Reader) bool {
	return func(r *Reader) bool { return r.Text(most) == "" }
}
func readRaw(most int) func(*Reader) bool {
	return func(r *Reader) bool { return len(r.Raw(most)) == 0 }
}
func readHashes(most int) func(*Reader) bool {
	return func(r *Reader) bool { return len(r.Hashes(most)) == 0 }
}

func checkFaults(t *testing.T, l []fault) {
	t.Helper()
	for _, f := range l {
		for _, ahead := range []int{0, 3} {
			r := NewReader(join([]byte{1, 1, 1}[:ahead], f.b))
			for range ahead {
				r.Byte()
			}
			zero := f.read(r)
			if e, at := r.Fault(); !zero || e != f.e || at != f.at+ahead || r.At() != ahead || r.Left() != len(f.b) {
				t.Errorf("%s, %d bytes ahead: zero %v, %d at %d, At %d", f.name, ahead, zero, e, at, r.At())
			}
			if e, at := r.Done(); e != f.e || at != f.at+ahead {
				t.Errorf("%s, Done: %d at %d", f.name, e, at)
			}
			checkStuck(t, r, f.name)
		}
	}
}

// checkStuck: all reads, and Fail, change nothing any more.
func checkStuck(t *testing.T, r *Reader, name string) {
	t.Helper()
	e, place := r.Fault()
	at, left := r.At(), r.Left()
	zero := readByte(r) && readBool(r) && readFix(r) && readUint(r) && readInt(r) && readFloat(r) && readHash(r)
	zero = zero && readText(9)(r) && readRaw(9)(r) && readHashes(9)(r) && readText(-1)(r)
	r.Fail(api.ErrTalk, 99)
	if g, p := r.Fault(); !zero || g != e || p != place || r.At() != at || r.Left() != left {
		t.Errorf("%s: it goes on: zero %v, %d at %d, At %d", name, zero, g, p, r.At())
	}
}

// P2.2
func TestShortReads(t *testing.T) {
	h, g := api.Hash{1}, api.Hash{2}
	checkFaults(t, []fault{
		{"Byte of none", nil, readByte, api.ErrShort, 0},
		{"Bool of none", nil, readBool, api.ErrShort, 0},
		{"Fix32 of none", nil, readFix, api.ErrShort, 0},
		{"Fix32 of three", []byte{1, 2, 3}, readFix, api.ErrShort, 3},
		{"Uint of none", nil, readUint, api.ErrShort, 0},
		{"Uint of 80", []byte{0x80}, readUint, api.ErrShort, 1},
		{"Uint of nine ff", bytes.Repeat([]byte{0xff}, 9), readUint, api.ErrShort, 9},
		{"Uint, short ahead of its range", []byte{0xff}, readUintTo(3), api.ErrShort, 1},
		{"Int of 80", []byte{0x80}, readInt, api.ErrShort, 1},
		{"Float of seven", []byte{0x7f, 0xf0, 0, 0, 0, 0, 0}, readFloat, api.ErrShort, 7},
		{"Hash of 31", make([]byte, 31), readHash, api.ErrShort, 31},
		{"Text without a length", nil, readText(9), api.ErrShort, 0},
		{"Text, a length cut", []byte{0x80}, readText(9), api.ErrShort, 1},
		{"Text, a length cut, most below 0", []byte{0x80}, readText(-1), api.ErrShort, 1},
		{"Text of one byte less", []byte{2, 'a'}, readText(9), api.ErrShort, 2},
		{"Text, short ahead of form", []byte{3, 'a', 0xff}, readText(9), api.ErrShort, 3},
		{"Text of a great length", join(bytes.Repeat([]byte{0xff}, 8), []byte{0x7f, 1, 2}), readText(math.MaxInt), api.ErrShort, 11},
		{"Raw of one byte less", []byte{2, 'a'}, readRaw(9), api.ErrShort, 2},
		{"Raw of a great length", join(bytes.Repeat([]byte{0xff}, 8), []byte{0x7f}), readRaw(math.MaxInt), api.ErrShort, 9},
		{"Hashes without a length", nil, readHashes(9), api.ErrShort, 0},
		{"Hashes, one byte less", join([]byte{2}, h[:], g[:31]), readHashes(9), api.ErrShort, 64},
		{"Hashes, short ahead of form", join([]byte{3}, g[:], h[:], g[:31]), readHashes(9), api.ErrShort, 96},
		{"Hashes, a great length", join(bytes.Repeat([]byte{0xff}, 8), []byte{0x7f}, h[:]), readHashes(math.MaxInt), api.ErrShort, 41},
		{"Hashes, a length that times 32 goes round", join([]byte{0x80, 0x80, 0x80, 0x80, 0x80, 0x80, 0x80, 0x80, 8}, h[:]), readHashes(math.MaxInt), api.ErrShort, 41},
	})
}

// P2.2
func TestReadsOfWrongForm(t *testing.T) {
	full := bytes.Repeat([]byte{0xff}, 9)
	empty := bytes.Repeat([]byte{0x80}, 9)
	checkFaults(t, []fault{
		{"Bool 2", []byte{2}, readBool, api.ErrForm, 0},
		{"Bool 255", []byte{255}, readBool, api.ErrForm, 0},
		{"80 00", []byte{0x80, 0}, readUint, api.ErrForm, 1},
		{"80 80 00", []byte{0x80, 0x80, 0}, readUint, api.ErrForm, 2},
		{"80 00, form ahead of range", []byte{0xff, 0}, readUintTo(3), api.ErrForm, 1},
		{"nine ff and 02", join(full, []byte{2}), readUint, api.ErrForm, 9},
		{"nine ff and 00", join(full, []byte{0}), readUint, api.ErrForm, 9},
		{"ten ff", join(full, []byte{0xff}), readUint, api.ErrForm, 9},
		{"nine 80, 81, 01", join(empty, []byte{0x81, 1}), readUint, api.ErrForm, 9},
		{"Int of 80 00", []byte{0x80, 0}, readInt, api.ErrForm, 1},
		{"Int of nine ff and 02", join(full, []byte{2}), readInt, api.ErrForm, 9},
		{"Text, a length 81 00", []byte{0x81, 0, 'a'}, readText(9), api.ErrForm, 1},
		{"Text, a length 81 00, most below 0", []byte{0x81, 0, 'a'}, readText(-1), api.ErrForm, 1},
		{"Raw, a length 81 00", []byte{0x81, 0, 'a'}, readRaw(9), api.ErrForm, 1},
		{"Hashes, a length 80 00", []byte{0x80, 0}, readHashes(9), api.ErrForm, 1},
		{"NaN", []byte{0x7f, 0xf8, 0, 0, 0, 0, 0, 1}, readFloat, api.ErrForm, 0},
		{"+Inf", []byte{0x7f, 0xf0, 0, 0, 0, 0, 0, 0}, readFloat, api.ErrForm, 0},
		{"-Inf", []byte{0xff, 0xf0, 0, 0, 0, 0, 0, 0}, readFloat, api.ErrForm, 0},
		{"-0", []byte{0x80, 0, 0, 0, 0, 0, 0, 0}, readFloat, api.ErrForm, 0},
	})
}

// P2.2
func TestReadsBeyondMost(t *testing.T) {
	checkFaults(t, []fault{
		{"300 above 299", []byte{0xac, 2}, readUintTo(299), api.ErrRange, 0},
		{"1 above 0", []byte{1}, readUintTo(0), api.ErrRange, 0},
		{"the greatest", join(bytes.Repeat([]byte{0xff}, 9), []byte{1}), readUintTo(math.MaxUint64 - 1), api.ErrRange, 0},
		{"Text, long ahead of short", []byte{2, 'a'}, readText(1), api.ErrLong, 0},
		{"Text, long ahead of form", []byte{1, 0xff}, readText(0), api.ErrLong, 0},
		{"Text, most below 0", []byte{0}, readText(-1), api.ErrLong, 0},
		{"Text, the least most", []byte{0}, readText(math.MinInt), api.ErrLong, 0},
		{"Text, the greatest length", join(bytes.Repeat([]byte{0xff}, 9), []byte{1}), readText(math.MaxInt), api.ErrLong, 0},
		{"Raw, long", []byte{2, 1, 1}, readRaw(1), api.ErrLong, 0},
		{"Raw, most below 0", []byte{0}, readRaw(-1), api.ErrLong, 0},
		{"Hashes, long ahead of short", []byte{1}, readHashes(0), api.ErrLong, 0},
		{"Hashes, most below 0", []byte{0}, readHashes(-1), api.ErrLong, 0},
	})
}

// P2.2
func TestTextsThatAreNone(t *testing.T) {
	checkFaults(t, []fault{
		{"ff", []byte{2, 'a', 0xff}, readText(9), api.ErrForm, 2},
		{"cut within a character", []byte{3, 'a', 0xe2, 0x82, 0xac}, readText(9), api.ErrForm, 2},
		{"a character spoilt", []byte{4, 0xe2, 0x82, 'a', 'b'}, readText(9), api.ErrForm, 1},
		{"behind a whole character", []byte{5, 0xe2, 0x82, 0xac, 0x82, 'a'}, readText(9), api.ErrForm, 4},
		{"a surrogate", []byte{3, 0xed, 0xa0, 0x80}, readText(9), api.ErrForm, 1},
		{"too long a form", []byte{2, 0xc0, 0x80}, readText(9), api.ErrForm, 1},
		{"above the last code point", []byte{4, 0xf4, 0x90, 0x80, 0x80}, readText(9), api.ErrForm, 1},
	})
	r := NewReader([]byte{3, 0xef, 0xbf, 0xbd})
	if s := r.Text(3); s != "\uFFFD" {
		t.Errorf("the character fffd itself: %q", s)
	}
}

// P2.2
func TestHashesThatDoNotRise(t *testing.T) {
	a, b, c := api.Hash{1}, api.Hash{2}, api.Hash{3}
	checkFaults(t, []fault{
		{"falling", join([]byte{2}, raw(b), raw(a)), readHashes(9), api.ErrForm, 33},
		{"twice", join([]byte{3}, raw(a), raw(b), raw(b)), readHashes(9), api.ErrForm, 65},
		{"the first of two faults", join([]byte{4}, raw(a), raw(c), raw(b), raw(a)), readHashes(9), api.ErrForm, 65},
	})
	r := NewReader(join([]byte{1}, raw(api.Hash{})))
	if l := r.Hashes(1); len(l) != 1 || l[0] != (api.Hash{}) {
		t.Error("the zero hash alone")
	}
}

// P2.2
func TestMostThatJustHasRoom(t *testing.T) {
	r := NewReader([]byte{0, 0x7f, 1, 'a', 0, 0, 0})
	if r.Uint(0) != 0 || r.Uint(127) != 127 || r.Text(1) != "a" || r.Text(0) != "" || len(r.Raw(0)) != 0 || len(r.Hashes(0)) != 0 {
		t.Error("read otherwise")
	}
	if e, at := r.Done(); e != api.OK || at != 0 {
		t.Errorf("Done: %d at %d", e, at)
	}
}

// P2.3
func TestReaderFail(t *testing.T) {
	for _, at := range []int{0, 1, -5, 1000, math.MinInt} {
		r := NewReader([]byte{1, 2, 3})
		r.Byte()
		r.Fail(api.OK, 7)
		if e, place := r.Fault(); e != api.OK || place != 0 {
			t.Errorf("Fail with OK: %d at %d", e, place)
		}
		r.Fail(api.ErrTalk, at)
		if e, place := r.Fault(); e != api.ErrTalk || place != at {
			t.Errorf("Fault: %d at %d", e, place)
		}
		if e, place := r.Done(); e != api.ErrTalk || place != at {
			t.Errorf("Done: %d at %d", e, place)
		}
		if r.At() != 1 || r.Left() != 2 {
			t.Errorf("At %d, Left %d", r.At(), r.Left())
		}
		checkStuck(t, r, "Fail")
	}
}

// P2.3
func TestReaderDoneChangesNothing(t *testing.T) {
	r := NewReader([]byte{1, 2})
	for at := range 2 {
		if e, place := r.Done(); e != api.ErrMore || place != at {
			t.Errorf("Done: %d at %d", e, place)
		}
		if e, place := r.Fault(); e != api.OK || place != 0 {
			t.Errorf("Done made a fault: %d at %d", e, place)
		}
		if r.Byte() != byte(at+1) {
			t.Error("it does not go on behind Done")
		}
	}
	if e, place := r.Done(); e != api.OK || place != 0 {
		t.Errorf("Done: %d at %d", e, place)
	}
}

// P2.3, P1
func TestNilReader(t *testing.T) {
	var r *Reader
	checkStuck(t, r, "a nil Reader")
	if e, at := r.Fault(); e != api.ErrNil || at != 0 {
		t.Errorf("Fault: %d at %d", e, at)
	}
	if e, at := r.Done(); e != api.ErrNil || at != 0 {
		t.Errorf("Done: %d at %d", e, at)
	}
	if r.At() != 0 || r.Left() != 0 {
		t.Errorf("At %d, Left %d", r.At(), r.Left())
	}
	if e, at := NewReader(nil).Done(); e != api.OK || at != 0 {
		t.Errorf("of nil bytes: %d at %d", e, at)
	}
}

// P2.2, P3
func TestReaderHasBytesOfItsOwn(t *testing.T) {
	b := spared([]byte{2, 7, 8, 2, 9, 9})
	r := NewReader(b)
	checkSpared(t, "NewReader", b, []byte{2, 7, 8, 2, 9, 9})
	clear(b)
	first := r.Raw(2)
	if !bytes.Equal(first, []byte{7, 8}) {
		t.Fatalf("what is handed in is kept: %x", first)
	}
	_ = append(first, 0xaa, 0xbb, 0xcc)
	if second := r.Raw(2); !bytes.Equal(second, []byte{9, 9}) {
		t.Errorf("an answer's spare room is the Reader's: %x", second)
	}
}

// one is a thing that is told to a Writer, and how it is read and held against what was told.
type one struct {
	tell func(*Writer)
	same func(*Reader) bool
}

func someOne(source *rand.Rand) one {
	n := source.Uint64() >> source.Intn(64)
	b := make([]byte, source.Intn(200))
	source.Read(b)
	var text []rune
	for range source.Intn(100) {
		text = append(text, rune(source.Intn(0xd800)))
	}
	var l []api.Hash
	for i := range source.Intn(5) {
		l = append(l, api.Hash{byte(i), byte(n)})
	}
	h := api.Hash{byte(n), 1}
	switch f := math.Float64frombits(source.Uint64()); source.Intn(10) {
	case 0:
		return one{func(w *Writer) { w.Byte(byte(n)) }, func(r *Reader) bool { return r.Byte() == byte(n) }}
	case 1:
		return one{func(w *Writer) { w.Bool(n%2 == 1) }, func(r *Reader) bool { return r.Bool() == (n%2 == 1) }}
	case 2:
		return one{func(w *Writer) { w.Fix32(uint32(n)) }, func(r *Reader) bool { return r.Fix32() == uint32(n) }}
	case 3:
		return one{func(w *Writer) { w.Uint(n) }, func(r *Reader) bool { return r.Uint(n) == n }}
	case 4:
		return one{func(w *Writer) { w.Int(-int64(n)) }, func(r *Reader) bool { return r.Int() == -int64(n) }}
	case 5:
		if f-f != 0 {
			f = 0
		}
		return one{func(w *Writer) { w.Float(f) }, func(r *Reader) bool { return r.Float() == f }}
	case 6:
		return one{func(w *Writer) { w.Text(string(text)) }, func(r *Reader) bool { return r.Text(len(string(text))) == string(text) }}
	case 7:
		return one{func(w *Writer) { w.Raw(b) }, func(r *Reader) bool { return bytes.Equal(r.Raw(len(b)), b) }}
	case 8:
		return one{func(w *Writer) { w.Hash(h) }, func(r *Reader) bool { return r.Hash() == h }}
	}
	return one{func(w *Writer) { w.Hashes(l) }, func(r *Reader) bool { return sameHashes(r.Hashes(len(l)), l) }}
}

func sameHashes(a, b []api.Hash) bool {
	if len(a) != len(b) {
		return false
	}
	for i := range a {
		if a[i] != b[i] {
			return false
		}
	}
	return true
}

// P2.5
func TestWhatIsToldIsRead(t *testing.T) {
	source := rand.New(rand.NewSource(2))
	for range 2000 {
		var l []one
		var w Writer
		for range source.Intn(8) {
			o := someOne(source)
			o.tell(&w)
			l = append(l, o)
		}
		b, e := w.Done()
		if e != api.OK {
			t.Fatalf("written: %d", e)
		}
		r := NewReader(b)
		for i, o := range l {
			if !o.same(r) {
				t.Fatalf("number %d of %x is read otherwise", i, b)
			}
		}
		if e, at := r.Done(); e != api.OK || at != 0 {
			t.Fatalf("Done: %d at %d, of %x", e, at, b)
		}
	}
}

// P2.5
func TestNumbersAtAllPowers(t *testing.T) {
	for shift := range 64 {
		for _, d := range []uint64{0, 1, math.MaxUint64} {
			n := 1<<shift + d
			b := written(t, func(w *Writer) { w.Uint(n); w.Int(int64(n)); w.Int(-int64(n)) })
			r := NewReader(b)
			if r.Uint(n) != n || r.Int() != int64(n) || r.Int() != -int64(n) {
				t.Errorf("%d is read otherwise", n)
			}
			if e, at := r.Done(); e != api.OK {
				t.Errorf("%d: %d at %d", n, e, at)
			}
		}
	}
}

// copies are, for each read, what writes again what it reads.
func copies() []func(*Reader, *Writer) {
	return []func(*Reader, *Writer){
		func(r *Reader, w *Writer) { w.Byte(r.Byte()) },
		func(r *Reader, w *Writer) { w.Bool(r.Bool()) },
		func(r *Reader, w *Writer) { w.Fix32(r.Fix32()) },
		func(r *Reader, w *Writer) { w.Uint(r.Uint(math.MaxUint64)) },
		func(r *Reader, w *Writer) { w.Int(r.Int()) },
		func(r *Reader, w *Writer) { w.Float(r.Float()) },
		func(r *Reader, w *Writer) { w.Text(r.Text(math.MaxInt)) },
		func(r *Reader, w *Writer) { w.Raw(r.Raw(math.MaxInt)) },
		func(r *Reader, w *Writer) { w.Hash(r.Hash()) },
		func(r *Reader, w *Writer) { w.Hashes(r.Hashes(math.MaxInt)) },
	}
}

// checkOneWay reads bytes by reads that are drawn, till they end; it tells whether they went through.
func checkOneWay(t *testing.T, b []byte, source *rand.Rand) bool {
	t.Helper()
	r := NewReader(b)
	var w Writer
	l := copies()
	for e, _ := r.Fault(); e == api.OK && r.Left() > 0; e, _ = r.Fault() {
		l[source.Intn(len(l))](r, &w)
	}
	if e, _ := r.Done(); e != api.OK {
		return false
	}
	if again, e := w.Done(); e != api.OK || !bytes.Equal(again, b) {
		t.Fatalf("%x is read, %x, %d is written", b, again, e)
	}
	return true
}

// P2.6, P1
func TestThereIsOneWayOnly(t *testing.T) {
	source := rand.New(rand.NewSource(3))
	through := 0
	for range 100000 {
		b := make([]byte, source.Intn(40))
		for i := range b {
			b[i] = []byte{0, 1, 2, 3, 0x7f, 0x80, 0x81, 0xff, 'a', byte(source.Intn(256))}[source.Intn(10)]
		}
		if checkOneWay(t, b, source) {
			through++
		}
	}
	if through < 1000 {
		t.Errorf("only %d went through", through)
	}
}

// P2.6
func TestThereIsOneWayOnlyForShortBytes(t *testing.T) {
	for n := range 1 << 16 {
		for _, b := range [][]byte{{byte(n)}, {byte(n), byte(n >> 8)}, {byte(n), byte(n >> 8), 0x80}, {byte(n), byte(n >> 8), 1}} {
			for i, again := range copies() {
				r := NewReader(b)
				var w Writer
				again(r, &w)
				if e, _ := r.Done(); e != api.OK {
					continue
				}
				if got, e := w.Done(); e != api.OK || !bytes.Equal(got, b) {
					t.Fatalf("the read number %d of %x writes %x, %d", i, b, got, e)
				}
			}
		}
	}
}
