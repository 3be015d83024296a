package wire

import (
	"bytes"
	"math"
	"testing"

	"estuary/api"
	"estuary/digest"
)

// room is what stands behind what is handed in, and must stay so.
const room = 40

// spared is b with room behind it.
func spared(b []byte) []byte {
	return append(append(make([]byte, 0, len(b)+room), b...), bytes.Repeat([]byte{0xee}, room)...)[:len(b)]
}

func checkSpared(t *testing.T, name string, got, want []byte) {
	t.Helper()
	if !bytes.Equal(got, want) || !bytes.Equal(got[:len(got)+room][len(got):], bytes.Repeat([]byte{0xee}, room)) {
		t.Errorf("%s changed what was handed in", name)
	}
}

func written(t *testing.T, tell func(*Writer)) []byte {
	t.Helper()
	var w Writer
	tell(&w)
	b, e := w.Done()
	if e != api.OK || w.Len() != len(b) {
		t.Fatalf("Done: %d, %d bytes, Len %d", e, len(b), w.Len())
	}
	return b
}

func hashOfText(s string) api.Hash {
	return digest.Sum([]byte(s))
}

// P2.1
func TestWrittenBytes(t *testing.T) {
	type want struct {
		name string
		tell func(*Writer)
		b    []byte
	}
	full := bytes.Repeat([]byte{0xff}, 9)
	for _, c := range []want{
		{"Byte", func(w *Writer) { w.Byte(0); w.Byte(255) }, []byte{0, 255}},
		{"Bool", func(w *Writer) { w.Bool(false); w.Bool(true) }, []byte{0, 1}},
		{"Fix32 258", func(w *Writer) { w.Fix32(258) }, []byte{0, 0, 1, 2}},
		{"Fix32, the greatest", func(w *Writer) { w.Fix32(0xfedcba98) }, []byte{0xfe, 0xdc, 0xba, 0x98}},
		{"Uint 0", func(w *Writer) { w.Uint(0) }, []byte{0}},
		{"Uint 127", func(w *Writer) { w.Uint(127) }, []byte{0x7f}},
		{"Uint 128", func(w *Writer) { w.Uint(128) }, []byte{0x80, 1}},
		{"Uint 300", func(w *Writer) { w.Uint(300) }, []byte{0xac, 2}},
		{"Uint 16383", func(w *Writer) { w.Uint(16383) }, []byte{0xff, 0x7f}},
		{"Uint 16384", func(w *Writer) { w.Uint(16384) }, []byte{0x80, 0x80, 1}},
		{"Uint, the greatest of nine bytes", func(w *Writer) { w.Uint(1<<63 - 1) }, append(bytes.Clone(full[:8]), 0x7f)},
		{"Uint, the greatest", func(w *Writer) { w.Uint(math.MaxUint64) }, append(bytes.Clone(full), 1)},
		{"Int 0", func(w *Writer) { w.Int(0) }, []byte{0}},
		{"Int -1", func(w *Writer) { w.Int(-1) }, []byte{1}},
		{"Int 1", func(w *Writer) { w.Int(1) }, []byte{2}},
		{"Int -64", func(w *Writer) { w.Int(-64) }, []byte{0x7f}},
		{"Int 64", func(w *Writer) { w.Int(64) }, []byte{0x80, 1}},
		{"Int, the greatest", func(w *Writer) { w.Int(math.MaxInt64) }, append([]byte{0xfe}, append(bytes.Clone(full[:8]), 1)...)},
		{"Int, the least", func(w *Writer) { w.Int(math.MinInt64) }, append(bytes.Clone(full), 1)},
		{"Float 1.5", func(w *Writer) { w.Float(1.5) }, []byte{0x3f, 0xf8, 0, 0, 0, 0, 0, 0}},
		{"Float -0", func(w *Writer) { w.Float(math.Copysign(0, -1)) }, make([]byte, 8)},
		{"Float 0", func(w *Writer) { w.Float(0) }, make([]byte, 8)},
		{"Float -1", func(w *Writer) { w.Float(-1) }, []byte{0xbf, 0xf0, 0, 0, 0, 0, 0, 0}},
		{"Float, the least above 0", func(w *Writer) { w.Float(math.SmallestNonzeroFloat64) }, []byte{0, 0, 0, 0, 0, 0, 0, 1}},
		{"Text ab", func(w *Writer) { w.Text("ab") }, []byte{2, 'a', 'b'}},
		{"Text of one character", func(w *Writer) { w.Text("€") }, []byte{3, 0xe2, 0x82, 0xac}},
		{"Text of no character", func(w *Writer) { w.Text("") }, []byte{0}},
		{"Text with the bytes 0 and 10", func(w *Writer) { w.Text("\x00\n") }, []byte{2, 0, 10}},
		{"Raw", func(w *Writer) { w.Raw([]byte{0xff, 0}) }, []byte{2, 0xff, 0}},
		{"Raw of nil", func(w *Writer) { w.Raw(nil) }, []byte{0}},
		{"Hashes of nil", func(w *Writer) { w.Hashes(nil) }, []byte{0}},
		{"Fail OK", func(w *Writer) { w.Fail(api.OK); w.Byte(1) }, []byte{1}},
	} {
		if b := written(t, c.tell); !bytes.Equal(b, c.b) {
			t.Errorf("%s: %x", c.name, b)
		}
	}
	long := bytes.Repeat([]byte{7}, 200)
	if b := written(t, func(w *Writer) { w.Raw(long) }); !bytes.Equal(b, append([]byte{0xc8, 1}, long...)) {
		t.Error("Raw of 200 bytes")
	}
	h := hashOfText("a")
	if b := written(t, func(w *Writer) { w.Hash(h) }); !bytes.Equal(b, h[:]) {
		t.Errorf("Hash: %x", b)
	}
}

// P2.1, P3, P4
func TestHashesAreWrittenRisingAndOnce(t *testing.T) {
	a, b, c := api.Hash{1}, api.Hash{1, 0, 1}, api.Hash{2}
	want := append([]byte{3}, a[:]...)
	want = append(append(want, b[:]...), c[:]...)
	for _, l := range [][]api.Hash{{a, b, c}, {c, b, a}, {b, a, b, c, c, a, b}} {
		before := append([]api.Hash{}, l...)
		if got := written(t, func(w *Writer) { w.Hashes(l) }); !bytes.Equal(got, want) {
			t.Errorf("%x", got)
		}
		for i := range l {
			if l[i] != before[i] {
				t.Error("Hashes changed what was handed in")
			}
		}
	}
}

// P3
func TestHashesLeavesTheRoomBehind(t *testing.T) {
	a, b, c := api.Hash{1}, api.Hash{2}, api.Hash{3}
	l := []api.Hash{c, c, a, b}
	written(t, func(w *Writer) { w.Hashes(l[:2]) })
	if l[0] != c || l[1] != c || l[2] != a || l[3] != b {
		t.Error("Hashes changed what was handed in")
	}
}

// P2.1
func TestWriterErrors(t *testing.T) {
	type fault struct {
		name string
		tell func(*Writer)
		e    api.Errno
	}
	for _, f := range []fault{
		{"NaN", func(w *Writer) { w.Float(math.NaN()) }, api.ErrForm},
		{"+Inf", func(w *Writer) { w.Float(math.Inf(1)) }, api.ErrForm},
		{"-Inf", func(w *Writer) { w.Float(math.Inf(-1)) }, api.ErrForm},
		{"no UTF-8", func(w *Writer) { w.Text("\xff") }, api.ErrForm},
		{"UTF-8 that ends early", func(w *Writer) { w.Text("a\xe2\x82") }, api.ErrForm},
		{"a surrogate", func(w *Writer) { w.Text("\xed\xa0\x80") }, api.ErrForm},
		{"too long a form", func(w *Writer) { w.Text("\xc0\x80") }, api.ErrForm},
		{"Fail", func(w *Writer) { w.Fail(api.ErrTalk) }, api.ErrTalk},
		{"Fail with a number that is none", func(w *Writer) { w.Fail(-7) }, -7},
		{"the first error stays", func(w *Writer) { w.Fail(api.ErrTalk); w.Text("\xff"); w.Fail(api.ErrLong); w.Fail(api.OK) }, api.ErrTalk},
		{"the first error stays, ErrForm", func(w *Writer) { w.Float(math.NaN()); w.Fail(api.ErrTalk) }, api.ErrForm},
	} {
		var w Writer
		w.Byte(9)
		f.tell(&w)
		tellAll(&w)
		if b, e := w.Done(); e != f.e || len(b) != 0 || w.Len() != 1 {
			t.Errorf("%s: %x, %d, Len %d", f.name, b, e, w.Len())
		}
	}
}

func tellAll(w *Writer) {
	w.Byte(1)
	w.Bool(true)
	w.Fix32(2)
	w.Uint(300)
	w.Int(-5)
	w.Float(1.5)
	w.Text("ab")
	w.Raw([]byte{1, 2})
	w.Hash(api.Hash{1})
	w.Hashes([]api.Hash{{1}, {2}})
}

// P2.1: example 3
func TestWriterErrorAtTheBeginning(t *testing.T) {
	var w Writer
	w.Text("\xff")
	if w.Len() != 0 {
		t.Error("Len behind a text that is none")
	}
	w.Byte(1)
	if b, e := w.Done(); e != api.ErrForm || len(b) != 0 || w.Len() != 0 {
		t.Errorf("%x, %d", b, e)
	}
}

// P2.1, P3
func TestWriterGoesOnBehindDone(t *testing.T) {
	var w Writer
	if b, e := w.Done(); len(b) != 0 || e != api.OK || w.Len() != 0 {
		t.Error("the zero Writer")
	}
	w.Raw(make([]byte, 20))
	first, _ := w.Done()
	second, _ := w.Done()
	for i := range first {
		first[i] = 0xaa
	}
	_ = append(first, 0xbb)
	w.Byte(3)
	third, e := w.Done()
	if e != api.OK || !bytes.Equal(third, append(append([]byte{20}, make([]byte, 20)...), 3)) {
		t.Errorf("%x, %d", third, e)
	}
	if !bytes.Equal(second, third[:21]) {
		t.Error("two answers share memory")
	}
}

// P3
func TestWriterKeepsNothing(t *testing.T) {
	var w Writer
	b := spared([]byte{1, 2, 3})
	w.Raw(b)
	w.Raw(b)
	checkSpared(t, "Raw", b, []byte{1, 2, 3})
	clear(b)
	if got, _ := w.Done(); !bytes.Equal(got, []byte{3, 1, 2, 3, 3, 1, 2, 3}) {
		t.Errorf("%x", got)
	}
}

// P2.1, P1
func TestNilWriter(t *testing.T) {
	var w *Writer
	tellAll(w)
	w.Text("\xff")
	w.Float(math.NaN())
	w.Fail(api.ErrForm)
	if b, e := w.Done(); len(b) != 0 || e != api.ErrNil || w.Len() != 0 {
		t.Errorf("%x, %d, Len %d", b, e, w.Len())
	}
}
