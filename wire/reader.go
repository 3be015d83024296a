package wire

import (
	"bytes"
	"math"
	"unicode/utf8"

	"estuary/api"
	"estuary/digest"
)

const (
	moreBit   = 128 // of a byte of a number: others follow
	partBits  = 7   // of the number in each of its bytes
	lastPart  = 9   // a number's byte of which one bit alone has room in 64
	floatSize = 8
	hashSize  = 32
)

// cursor is a place among bytes.
type cursor struct {
	all []byte
	at  int
}

// At is how many bytes stand ahead of the place.
func (c *cursor) At() int {
	return c.at
}

// Left is how many bytes stand behind it.
func (c *cursor) Left() int {
	return len(c.all) - c.at
}

// scan is a cursor that goes on only as long as there is no fault.
type scan struct {
	cursor
	fault api.Errno
	place int
}

// keep makes an error the fault, if it is one and there was none; it tells whether there is none still.
func (s *scan) keep(e api.Errno, place int) bool {
	if s.fault == api.OK && e != api.OK {
		s.fault, s.place = e, place
	}
	return s.fault == api.OK
}

// next is the next n bytes, which are not gone past yet: a read that meets a fault in them stays where it was.
func (s *scan) next(n int) ([]byte, bool) {
	if s.Left() < n {
		return nil, s.keep(api.ErrShort, len(s.all))
	}
	return s.all[s.at : s.at+n], true
}

// number is the number that stands next, and how many bytes it has; they are not gone past yet.
func (s *scan) number() (uint64, int, bool) {
	var v uint64
	size, why, place := 0, api.ErrShort, len(s.all)
parts:
	for i, b := range s.all[s.at:] {
		switch {
		case i == lastPart && b > 1, i > 0 && b == 0:
			why, place = api.ErrForm, s.At()+i
			break parts
		case b < moreBit:
			v |= uint64(b) << (partBits * i)
			size, why = i+1, api.OK
			break parts
		}
		v |= uint64(b-moreBit) << (partBits * i)
	}
	return v, size, s.keep(why, place)
}

// counted is what stands behind the length that stands next, in so many units of bytes, and how many bytes the length has; none of them is gone past yet.
func (s *scan) counted(most, unit int) ([]byte, int, bool) {
	v, head, ok := s.number()
	if !ok {
		return nil, 0, false
	}
	if most < 0 || v > uint64(most) {
		return nil, 0, s.keep(api.ErrLong, s.At())
	}
	if v > uint64((s.Left()-head)/unit) {
		return nil, 0, s.keep(api.ErrShort, len(s.all))
	}
	from := s.at + head
	return s.all[from : from+int(v)*unit], head, true
}

// Reader goes through bytes. Its At and Left are the cursor's; they stand once more below for the nil Reader, which has no cursor.
type Reader struct {
	scan
}

// NewReader stands at the first byte.
func NewReader(b []byte) *Reader {
	return &Reader{scan{cursor: cursor{all: bytes.Clone(b)}}}
}

// stopped tells that nothing is read any more.
func (r *Reader) stopped() bool {
	return r == nil || r.fault != api.OK
}

// Byte reads one byte.
func (r *Reader) Byte() byte {
	if r.stopped() {
		return 0
	}
	b, ok := r.next(1)
	if !ok {
		return 0
	}
	r.at++
	return b[0]
}

// Bool reads a truth.
func (r *Reader) Bool() bool {
	if r.stopped() {
		return false
	}
	b, ok := r.next(1)
	if !ok {
		return false
	}
	if b[0] > 1 {
		r.keep(api.ErrForm, r.at)
		return false
	}
	r.at++
	return b[0] == 1
}

// Fix32 reads four bytes.
func (r *Reader) Fix32() uint32 {
	if r.stopped() {
		return 0
	}
	b, ok := r.next(fixSize)
	if !ok {
		return 0
	}
	r.at += fixSize
	return fix32(b)
}

// Uint reads a number without sign that is at most most.
func (r *Reader) Uint(most uint64) uint64 {
	if r.stopped() {
		return 0
	}
	v, size, ok := r.number()
	if !ok {
		return 0
	}
	if v > most {
		r.keep(api.ErrRange, r.at)
		return 0
	}
	r.at += size
	return v
}

// Int reads a number with sign.
func (r *Reader) Int() int64 {
	v := r.Uint(math.MaxUint64)
	if v%2 == 1 {
		return int64(^(v >> 1))
	}
	return int64(v >> 1)
}

// Float reads a finite float.
func (r *Reader) Float() float64 {
	if r.stopped() {
		return 0
	}
	b, ok := r.next(floatSize)
	if !ok {
		return 0
	}
	v := math.Float64frombits(uint64(fix32(b))<<32 | uint64(fix32(b[fixSize:])))
	if !finite(v) || v == 0 && math.Signbit(v) {
		r.keep(api.ErrForm, r.at)
		return 0
	}
	r.at += floatSize
	return v
}

// Text reads a text of at most most bytes.
func (r *Reader) Text(most int) string {
	if r.stopped() {
		return ""
	}
	b, head, ok := r.counted(most, 1)
	if !ok {
		return ""
	}
	if good := goodText(b); good < len(b) {
		r.keep(api.ErrForm, r.at+head+good)
		return ""
	}
	r.at += head + len(b)
	return string(b)
}

// Raw reads at most most bytes.
func (r *Reader) Raw(most int) []byte {
	if r.stopped() {
		return nil
	}
	b, head, ok := r.counted(most, 1)
	if !ok {
		return nil
	}
	r.at += head + len(b)
	return bytes.Clone(b)
}

// Hash reads a hash.
func (r *Reader) Hash() api.Hash {
	if r.stopped() {
		return api.Hash{}
	}
	b, ok := r.next(hashSize)
	if !ok {
		return api.Hash{}
	}
	r.at += hashSize
	return hashOf(b)
}

// Hashes reads at most most hashes that rise.
func (r *Reader) Hashes(most int) []api.Hash {
	if r.stopped() {
		return nil
	}
	b, head, ok := r.counted(most, hashSize)
	if !ok {
		return nil
	}
	l := make([]api.Hash, len(b)/hashSize)
	for i := range l {
		l[i] = hashOf(b[i*hashSize:])
		if i > 0 && digest.Compare(l[i-1], l[i]) >= 0 {
			r.keep(api.ErrForm, r.at+head+i*hashSize)
			return nil
		}
	}
	r.at += head + len(b)
	return l
}

// Fail sets an error at a place, if there is none.
func (r *Reader) Fail(e api.Errno, at int) {
	if r != nil {
		r.keep(e, at)
	}
}

// At is how many bytes were read.
func (r *Reader) At() int {
	if r == nil {
		return 0
	}
	return r.scan.At()
}

// Left is how many bytes stand behind those that were read.
func (r *Reader) Left() int {
	if r == nil {
		return 0
	}
	return r.scan.Left()
}

// Fault is the first error and its place.
func (r *Reader) Fault() (api.Errno, int) {
	if r == nil {
		return api.ErrNil, 0
	}
	return r.fault, r.place
}

// Done is the fault, or ErrMore where bytes are left.
func (r *Reader) Done() (api.Errno, int) {
	if e, at := r.Fault(); e != api.OK {
		return e, at
	}
	if r.Left() > 0 {
		return api.ErrMore, r.At()
	}
	return api.OK, 0
}

// goodText is how many bytes stand ahead of the first with which no UTF-8 sequence begins.
func goodText(b []byte) int {
	n := 0
	for n < len(b) {
		r, size := utf8.DecodeRune(b[n:])
		if r == utf8.RuneError && size == 1 {
			break
		}
		n += size
	}
	return n
}

func hashOf(b []byte) api.Hash {
	var h api.Hash
	copy(h[:], b)
	return h
}
