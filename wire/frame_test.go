package wire

import (
	"bytes"
	"encoding/binary"
	"hash/crc32"
	"testing"

	"estuary/api"
)

// framed is a frame by the chapter's words; the length may be another one than that of b.
func framed(kind byte, length uint32, b []byte) []byte {
	f := binary.BigEndian.AppendUint32([]byte{kind}, length)
	f = binary.BigEndian.AppendUint32(f, crc32.ChecksumIEEE(f))
	f = append(f, b...)
	return binary.BigEndian.AppendUint32(f, crc32.ChecksumIEEE(f))
}

func sealed(t *testing.T, kind byte, b []byte) []byte {
	t.Helper()
	f, e := Seal(kind, b)
	if e != api.OK {
		t.Fatalf("Seal: %d", e)
	}
	return f
}

func checkRefused(t *testing.T, name string, b []byte, want api.Errno) {
	t.Helper()
	if kind, got, n, e := Open(b); kind != 0 || len(got) != 0 || n != 0 || e != want {
		t.Errorf("%s: %d, %x, %d, %d", name, kind, got, n, e)
	}
}

// P2.4
func TestSealAndOpen(t *testing.T) {
	for n := range 300 {
		b := bytes.Repeat([]byte{byte(n)}, n)
		f := sealed(t, byte(n), b)
		if !bytes.Equal(f, framed(byte(n), uint32(n), b)) || len(f) != 13+n {
			t.Fatalf("the frame of %d bytes: %x", n, f)
		}
		if kind, got, size, e := Open(f); kind != byte(n) || !bytes.Equal(got, b) || size != 13+n || e != api.OK {
			t.Fatalf("Open of %d bytes: %d, %x, %d, %d", n, kind, got, size, e)
		}
	}
}

// P2.4
func TestSealUpToTheLimit(t *testing.T) {
	b := make([]byte, api.MaxPacked+1)
	if f, e := Seal(1, b); e != api.ErrLong || len(f) != 0 {
		t.Errorf("one byte more: %d, %d bytes", e, len(f))
	}
	f := sealed(t, 1, b[:api.MaxPacked])
	if kind, got, n, e := Open(f); kind != 1 || len(got) != api.MaxPacked || n != len(f) || e != api.OK {
		t.Errorf("just so many: %d, %d bytes, %d, %d", kind, len(got), n, e)
	}
}

// P2.4
func TestOpenRefuses(t *testing.T) {
	checkRefused(t, "nil", nil, api.ErrShort)
	checkRefused(t, "8 bytes", make([]byte, 8), api.ErrShort)
	checkRefused(t, "9 bytes 0", make([]byte, 9), api.ErrSum)
	f := framed(7, 0, nil)
	checkRefused(t, "9 bytes of a frame", f[:9], api.ErrShort)
	checkRefused(t, "all but one byte", f[:12], api.ErrShort)
	over := framed(7, api.MaxPacked+1, nil)
	checkRefused(t, "a length above the limit", over, api.ErrLong)
	checkRefused(t, "a length above the limit, 9 bytes", over[:9], api.ErrLong)
	checkRefused(t, "the greatest length", framed(7, 0xffffffff, nil), api.ErrLong)
	checkRefused(t, "just the limit, without bytes", framed(7, api.MaxPacked, nil), api.ErrShort)
	over[1] = 0xff
	checkRefused(t, "a length above the limit, spoilt", over, api.ErrSum)
	one := framed(1, 1, []byte{5})
	checkRefused(t, "one byte less", one[:13], api.ErrShort)
	one[9] = 6
	checkRefused(t, "its byte turned", one, api.ErrSum)
}

// P2.7
func TestSpoiltFrames(t *testing.T) {
	for _, b := range [][]byte{nil, {5}, bytes.Repeat([]byte{0}, 20), []byte("what do ya want for nothing?")} {
		f := sealed(t, 3, b)
		for cut := range f {
			if _, _, _, e := Open(f[:cut]); e != api.ErrShort {
				t.Errorf("of %d bytes the first %d: %d", len(f), cut, e)
			}
		}
		for at := range f {
			for turn := 1; turn < 256; turn++ {
				spoilt := bytes.Clone(f)
				spoilt[at] ^= byte(turn)
				checkRefused(t, "a byte turned", spoilt, api.ErrSum)
				cut := len(f) - 1 - turn%len(f)
				if _, _, _, e := Open(spoilt[:cut]); e == api.OK {
					t.Errorf("the byte %d turned by %d, and cut to %d: OK", at, turn, cut)
				}
			}
		}
	}
}

// P2.7
func TestWhatStandsBehindAFrame(t *testing.T) {
	for _, b := range [][]byte{nil, {5}, []byte("abc")} {
		f := sealed(t, 9, b)
		for _, behind := range [][]byte{{0}, {1, 2, 3, 4, 5}, f, bytes.Repeat([]byte{0xff}, 100)} {
			if kind, got, n, e := Open(join(f, behind)); kind != 9 || !bytes.Equal(got, b) || n != len(f) || e != api.OK {
				t.Errorf("%x behind: %d, %x, %d, %d", behind, kind, got, n, e)
			}
			spoilt := join(f, behind)
			spoilt[len(f)-1] ^= 1
			checkRefused(t, "spoilt, with more behind", spoilt, api.ErrSum)
		}
	}
}

// P3
func TestFramesShareNothing(t *testing.T) {
	b := spared([]byte{1, 2, 3})
	f := sealed(t, 1, b)
	checkSpared(t, "Seal", b, []byte{1, 2, 3})
	clear(b)
	handed := spared(f)
	_, got, _, _ := Open(handed)
	checkSpared(t, "Open", handed, f)
	_ = append(got, 0xaa, 0xbb)
	checkSpared(t, "an append to what Open answers", handed, f)
	clear(handed)
	if !bytes.Equal(got, []byte{1, 2, 3}) {
		t.Errorf("what is answered shares memory: %x", got)
	}
}
