// Package wire writes and reads canonical bytes. See ../../shared/doc/02-wire.md.
package wire

import (
	"bytes"
	"math"
	"slices"
	"unicode/utf8"

	"estuary/api"
	"estuary/digest"
)

// Writer gathers canonical bytes. The zero one has been written nothing.
type Writer struct {
	all []byte
	err api.Errno
}

// add is the one place that lengthens what was written, so that a nil Writer, and one with an error, are left alone by all.
func (w *Writer) add(b ...byte) {
	if w == nil || w.err != api.OK {
		return
	}
	w.all = append(w.all, b...)
}

// Byte writes one byte.
func (w *Writer) Byte(v byte) {
	w.add(v)
}

// Bool writes a truth.
func (w *Writer) Bool(v bool) {
	if v {
		w.add(1)
	} else {
		w.add(0)
	}
}

// Fix32 writes four bytes, the highest first.
func (w *Writer) Fix32(v uint32) {
	w.add(byte(v>>24), byte(v>>16), byte(v>>8), byte(v))
}

// Uint writes a number without sign.
func (w *Writer) Uint(v uint64) {
	for v >= moreBit {
		w.add(byte(v) | moreBit)
		v >>= partBits
	}
	w.add(byte(v))
}

// Int writes a number with sign: 2n, or -2n - 1 for one below 0.
func (w *Writer) Int(v int64) {
	if v < 0 {
		w.Uint(^(uint64(v) << 1))
	} else {
		w.Uint(uint64(v) << 1)
	}
}

// Float writes a finite float.
func (w *Writer) Float(v float64) {
	if !finite(v) {
		w.Fail(api.ErrForm)
		return
	}
	bits := math.Float64bits(v)
	if v == 0 {
		bits = 0 // -0 too
	}
	w.Fix32(uint32(bits >> 32))
	w.Fix32(uint32(bits))
}

// Text writes a text that is valid UTF-8.
func (w *Writer) Text(s string) {
	if !utf8.ValidString(s) {
		w.Fail(api.ErrForm)
		return
	}
	w.Raw([]byte(s))
}

// Raw writes bytes, with their number ahead.
func (w *Writer) Raw(b []byte) {
	w.Uint(uint64(len(b)))
	w.add(b...)
}

// Hash writes a hash.
func (w *Writer) Hash(h api.Hash) {
	w.add(h[:]...)
}

// Hashes writes the hashes of a list, rising, each once.
func (w *Writer) Hashes(l []api.Hash) {
	rising := slices.Clone(l)
	slices.SortFunc(rising, digest.Compare)
	rising = slices.Compact(rising)
	w.Uint(uint64(len(rising)))
	for _, h := range rising {
		w.Hash(h)
	}
}

// Fail sets an error, if there is none.
func (w *Writer) Fail(e api.Errno) {
	if w != nil && w.err == api.OK {
		w.err = e
	}
}

// Len is how many bytes were written so far.
func (w *Writer) Len() int {
	if w == nil {
		return 0
	}
	return len(w.all)
}

// Done is all bytes that were written, or the first error.
func (w *Writer) Done() ([]byte, api.Errno) {
	if w == nil {
		return nil, api.ErrNil
	}
	if w.err != api.OK {
		return nil, w.err
	}
	return bytes.Clone(w.all), api.OK
}

func finite(v float64) bool {
	return !math.IsNaN(v) && !math.IsInf(v, 0)
}
