package digest

import (
	"bytes"
	"crypto/hmac"
	"crypto/sha256"
	"encoding/hex"
	"hash/crc32"
	"math/rand"
	"testing"

	"estuary/api"
)

// someBytes are the same for the same n each time, and unlike for unlike ones.
func someBytes(n int) []byte {
	b := make([]byte, n)
	rand.New(rand.NewSource(int64(n))).Read(b)
	return b
}

// spared is b with room behind it, which a call that is handed b must leave alone.
func spared(b []byte) []byte {
	return append(append(make([]byte, 0, len(b)+100), b...), bytes.Repeat([]byte{0xee}, 100)...)[:len(b)]
}

func checkSpared(t *testing.T, name string, got, want []byte) {
	t.Helper()
	if !bytes.Equal(got, want) || !bytes.Equal(got[:cap(got)][len(got):], bytes.Repeat([]byte{0xee}, 100)) {
		t.Errorf("%s changed what was handed in", name)
	}
}

// P1.1
func TestSumOfAllLengths(t *testing.T) {
	for n := range 300 {
		b := someBytes(n)
		if Sum(b) != api.Hash(sha256.Sum256(b)) {
			t.Errorf("of %d bytes", n)
		}
	}
	if b := someBytes(1 << 20); Sum(b) != api.Hash(sha256.Sum256(b)) {
		t.Error("of a megabyte")
	}
	if Hex(Sum(nil)) != "e3b0c44298fc1c149afbf4c8996fb92427ae41e4649b934ca495991b7852b855" {
		t.Error("of nil")
	}
	if Hex(Sum([]byte("abc"))) != "ba7816bf8f01cfea414140de5dae2223b00361a396177a9cb410ff61f20015ad" {
		t.Error("of abc")
	}
}

// P1.1, P1.7
func TestHasherInPieces(t *testing.T) {
	all := someBytes(400)
	for first := 0; first <= 200; first++ {
		for _, step := range []int{1, 3, 63, 64, 65, 128, 400} {
			h := New()
			h.Write(all[:first])
			for at := first; at < len(all); at += step {
				h.Write(all[at:min(at+step, len(all))])
				h.Write(nil)
			}
			if h.Sum() != Sum(all) || h.Len() != len(all) {
				t.Fatalf("%d bytes, then each %d: Len %d", first, step, h.Len())
			}
		}
	}
}

// P1.1
func TestHasherGoesOnBehindSum(t *testing.T) {
	h := New()
	if h.Sum() != Sum(nil) || h.Len() != 0 {
		t.Error("a new one")
	}
	all := someBytes(200)
	for i := range all {
		h.Write(all[i : i+1])
		if h.Sum() != Sum(all[:i+1]) || h.Sum() != Sum(all[:i+1]) || h.Len() != i+1 {
			t.Fatalf("behind %d bytes", i+1)
		}
	}
}

// P1.1, P5
func TestHasherForks(t *testing.T) {
	for n := range 130 {
		all := someBytes(n)
		h := New()
		h.Write(all)
		other := h.Fork()
		if other == h || other.Sum() != h.Sum() || other.Len() != n {
			t.Fatalf("fork behind %d bytes", n)
		}
		h.Write([]byte{1})
		other.Write([]byte{2, 3})
		if h.Sum() != Sum(append(bytes.Clone(all), 1)) || h.Len() != n+1 {
			t.Fatalf("the fork changed the first, behind %d bytes", n)
		}
		if other.Sum() != Sum(append(bytes.Clone(all), 2, 3)) || other.Len() != n+2 {
			t.Fatalf("the first changed the fork, behind %d bytes", n)
		}
	}
}

// P1.1, P1
func TestNilHasher(t *testing.T) {
	var h *Hasher
	h.Write([]byte{1})
	if h.Sum() != (api.Hash{}) || h.Len() != 0 || h.Fork() != nil {
		t.Error("a nil Hasher")
	}
}

// P3
func TestHasherKeepsNothing(t *testing.T) {
	for _, n := range []int{5, 64, 100} {
		b := someBytes(n)
		want := Sum(b)
		handed := spared(b)
		h := New()
		h.Write(handed)
		checkSpared(t, "Write", handed, b)
		clear(handed)
		if h.Sum() != want {
			t.Errorf("of %d bytes: what was handed in is kept", n)
		}
	}
}

// P1.2
func TestMac(t *testing.T) {
	for _, n := range []int{0, 1, 31, 32, 33, 63, 64, 65, 66, 127, 128, 129, 1000} {
		for _, m := range []int{0, 1, 55, 56, 64, 300} {
			key, b := someBytes(n), someBytes(m+7)
			h := hmac.New(sha256.New, key)
			h.Write(b)
			if got := Mac(key, b); !bytes.Equal(got[:], h.Sum(nil)) {
				t.Errorf("key of %d bytes, %d bytes", n, m)
			}
		}
	}
	if Hex(Mac([]byte("Jefe"), []byte("what do ya want for nothing?"))) != "5bdcc146bf60754e6a042426089575c75a003f089d2739839dec58b964ec3843" {
		t.Error("the example")
	}
	if Mac(nil, nil) != Mac(make([]byte, 64), nil) {
		t.Error("a nil key has 64 bytes 0")
	}
	long := someBytes(65)
	sum := Sum(long)
	if Mac(long, nil) != Mac(sum[:], nil) {
		t.Error("a key of 65 bytes is its Sum")
	}
}

// P3
func TestMacChangesNothing(t *testing.T) {
	for _, n := range []int{3, 64, 65} {
		key, b := spared(someBytes(n)), spared(someBytes(n+1))
		Mac(key, b)
		checkSpared(t, "Mac", key, someBytes(n))
		checkSpared(t, "Mac", b, someBytes(n+1))
	}
}

// crcByBits is the chapter's words, bit by bit.
func crcByBits(b []byte) uint32 {
	register := uint32(0xffffffff)
	for _, v := range b {
		for i := range 8 {
			x := uint32(v>>i)&1 ^ register&1
			register >>= 1
			if x == 1 {
				register ^= 0xedb88320
			}
		}
	}
	return ^register
}

// P1.3
func TestCrc(t *testing.T) {
	if Crc([]byte("123456789")) != 0xcbf43926 || Crc(nil) != 0 {
		t.Error("the examples")
	}
	for v := range 256 {
		b := []byte{byte(v)}
		if Crc(b) != crcByBits(b) {
			t.Errorf("of the byte %d", v)
		}
	}
	for n := range 200 {
		b := someBytes(n)
		if got := Crc(b); got != crcByBits(b) || got != crc32.ChecksumIEEE(b) {
			t.Errorf("of %d bytes: %x", n, got)
		}
	}
}

// P1.4, P1.8
func TestHexAndBack(t *testing.T) {
	for n := range 100 {
		h := Sum(someBytes(n))
		text := Hex(h)
		if text != hex.EncodeToString(h[:]) {
			t.Errorf("Hex: %s", text)
		}
		if got, e, at := UnHex(text); got != h || e != api.OK || at != 0 {
			t.Errorf("UnHex(%s): %d at %d", text, e, at)
		}
	}
	var all api.Hash
	for v := range 256 {
		all[v%32] = byte(v)
		if got, e, at := UnHex(Hex(all)); got != all || e != api.OK || at != 0 || Hex(all) != hex.EncodeToString(all[:]) {
			t.Errorf("the byte %d: %d at %d", v, e, at)
		}
	}
}

// P1.4, P2
func TestUnHexFaults(t *testing.T) {
	good := Hex(Sum(nil))
	type fault struct {
		name, text string
		at         int
	}
	for _, f := range []fault{
		{"nothing", "", 0},
		{"one digit", "0", 1},
		{"63 digits", good[:63], 63},
		{"65 digits", good + "0", 64},
		{"64 digits and another byte", good + "x", 64},
		{"65 bytes, one of the first 64 no digit", good[:63] + "x0", 63},
		{"128 digits", good + good, 64},
		{"a capital", "A" + good[1:], 0},
		{"a capital at the end", good[:63] + "F", 63},
		{"two faults", good[:5] + "g" + good[6:20] + "G" + good[21:], 5},
		{"a fault in a short one", good[:5] + "g", 5},
		{"a character of two bytes", good[:10] + "é" + good[12:], 10},
	} {
		if h, e, at := UnHex(f.text); h != (api.Hash{}) || e != api.ErrHex || at != f.at {
			t.Errorf("%s: %d at %d, hash %v", f.name, e, at, h)
		}
	}
}

// P1.4
func TestUnHexTakesJustDigits(t *testing.T) {
	good := Hex(Sum(nil))
	for v := range 256 {
		c := string([]byte{byte(v)})
		digit := v >= '0' && v <= '9' || v >= 'a' && v <= 'f'
		for _, at := range []int{0, 1, 63} {
			text := good[:at] + c + good[at+1:]
			h, e, place := UnHex(text)
			if digit && (e != api.OK || place != 0 || Hex(h) != text) || !digit && (e != api.ErrHex || place != at) {
				t.Errorf("the byte %d at %d: %d at %d", v, at, e, place)
			}
		}
	}
}

// P1.4
func TestShort(t *testing.T) {
	h := Sum([]byte("abc"))
	text := Hex(h)
	for n := 0; n <= 64; n++ {
		if Short(h, n) != text[:n] {
			t.Errorf("Short of %d: %s", n, Short(h, n))
		}
	}
	for _, n := range []int{-1, -64, -1 << 63} {
		if Short(h, n) != "" {
			t.Errorf("Short of %d: %s", n, Short(h, n))
		}
	}
	for _, n := range []int{65, 1000, 1<<63 - 1} {
		if Short(h, n) != text {
			t.Errorf("Short of %d: %s", n, Short(h, n))
		}
	}
}

// P1.5
func TestCompare(t *testing.T) {
	h := Sum(nil)
	if Compare(h, h) != 0 || Compare(api.Hash{}, api.Hash{}) != 0 {
		t.Error("the same")
	}
	for i := range h {
		low, high := h, h
		low[i], high[i] = 127, 128
		// What stands behind the first unlike byte has no say.
		if i+1 < len(h) {
			low[i+1], high[i+1] = 255, 0
		}
		if Compare(low, high) != -1 || Compare(high, low) != 1 {
			t.Errorf("unlike at %d", i)
		}
	}
}

func hashes(texts ...string) []api.Hash {
	var l []api.Hash
	for _, s := range texts {
		h, e, _ := UnHex((s + Hex(api.Hash{}))[:64])
		if e != api.OK {
			panic(s)
		}
		l = append(l, h)
	}
	return l
}

// P1.6
func TestFind(t *testing.T) {
	l := hashes("ab1", "ab2", "c", "ab1")
	type want struct {
		prefix string
		hash   api.Hash
		e      api.Errno
	}
	for _, w := range []want{
		{"", api.Hash{}, api.ErrMany},
		{"a", api.Hash{}, api.ErrMany},
		{"ab", api.Hash{}, api.ErrMany},
		{"ab1", l[0], api.OK},
		{"ab2", l[1], api.OK},
		{"ab10", l[0], api.OK},
		{"c", l[2], api.OK},
		{Hex(l[2]), l[2], api.OK},
		{"d", api.Hash{}, api.ErrNone},
		{"c1", api.Hash{}, api.ErrNone},
		{Hex(l[2])[:63] + "1", api.Hash{}, api.ErrNone},
		{Hex(l[2]) + "0", api.Hash{}, api.ErrHex},
		{"C", api.Hash{}, api.ErrHex},
		{"dg", api.Hash{}, api.ErrHex},
		{"ab ", api.Hash{}, api.ErrHex},
		{"\x00", api.Hash{}, api.ErrHex},
	} {
		if h, e := Find(w.prefix, l); h != w.hash || e != w.e {
			t.Errorf("Find(%q): %s, %d", w.prefix, Hex(h), e)
		}
	}
}

// P1.6
func TestFindInFewHashes(t *testing.T) {
	for _, l := range [][]api.Hash{nil, {}} {
		if h, e := Find("", l); h != (api.Hash{}) || e != api.ErrNone {
			t.Errorf("in none: %d", e)
		}
	}
	if _, e := Find("x", nil); e != api.ErrHex {
		t.Errorf("no digit, in none: %d", e)
	}
	zero := []api.Hash{{}}
	if h, e := Find("", zero); h != (api.Hash{}) || e != api.OK {
		t.Errorf("the zero hash: %d", e)
	}
	if _, e := Find("", hashes("", "1")); e != api.ErrMany {
		t.Errorf("the zero hash and another: %d", e)
	}
	twice := hashes("ab", "ab")
	if h, e := Find("", twice); h != twice[0] || e != api.OK {
		t.Errorf("the same twice: %d", e)
	}
}

// P1.6
func TestLead(t *testing.T) {
	end := api.Hash{31: 1}
	type want struct {
		l []api.Hash
		n int
	}
	for i, w := range []want{
		{nil, 0},
		{hashes(""), 0},
		{hashes("ab"), 0},
		{hashes("ab", "ab"), 0},
		{hashes("a", "b"), 1},
		{hashes("a", "b", "a"), 1},
		{hashes("a1", "b", "a2"), 2},
		{hashes("ab1", "c", "d", "ab2"), 3},
		{hashes("12345678", "12345679", "a", "b"), 8},
		{[]api.Hash{{}, end}, 64},
		{[]api.Hash{end, {}, end}, 64},
		{[]api.Hash{{}, {31: 16}}, 63},
	} {
		if n := Lead(w.l); n != w.n {
			t.Errorf("%d: %d", i, n)
		}
	}
}

// leadByWords is the chapter's words: the least n for which no two unlike ones have the same Short.
func leadByWords(l []api.Hash) int {
	n := 0
	for clash(l, n) {
		n++
	}
	return n
}

func clash(l []api.Hash, n int) bool {
	for _, a := range l {
		for _, b := range l {
			if a != b && Short(a, n) == Short(b, n) {
				return true
			}
		}
	}
	return false
}

// P1.6, P1.9
func TestLeadFinds(t *testing.T) {
	source := rand.New(rand.NewSource(1))
	for range 300 {
		l := make([]api.Hash, source.Intn(12))
		for i := range l {
			for range source.Intn(3) {
				l[i][source.Intn(3)] = byte(source.Intn(4) * 5)
			}
		}
		n := Lead(l)
		if n != leadByWords(l) {
			t.Fatalf("Lead is %d, by words %d: %x", n, leadByWords(l), l)
		}
		for _, h := range l {
			if got, e := Find(Short(h, n), l); got != h || e != api.OK {
				t.Fatalf("Find(Short(%x, %d)): %d", h, n, e)
			}
		}
	}
}

// P3
func TestListsStayAsTheyWere(t *testing.T) {
	l := hashes("c", "a", "b", "a", "f", "e")
	handed := l[:4]
	before := append([]api.Hash{}, l...)
	Lead(handed)
	Find("a", handed)
	Find("", handed)
	for i := range l {
		if l[i] != before[i] {
			t.Errorf("the hash number %d was changed", i)
		}
	}
}
