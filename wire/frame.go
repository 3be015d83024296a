package wire

import (
	"bytes"

	"estuary/api"
	"estuary/digest"
)

const (
	fixSize  = 4
	sumAt    = 1 + fixSize     // in a frame: behind the kind and the length
	headSize = sumAt + fixSize // of a frame: what stands ahead of its bytes
)

// Seal puts bytes into a frame of a kind, with their length and a sum.
func Seal(kind byte, b []byte) ([]byte, api.Errno) {
	if len(b) > api.MaxPacked {
		return nil, api.ErrLong
	}
	w := Writer{all: make([]byte, 0, headSize+len(b)+fixSize)}
	w.Byte(kind)
	w.Fix32(uint32(len(b)))
	w.Fix32(digest.Crc(w.all))
	w.add(b...)
	w.Fix32(digest.Crc(w.all))
	return w.all, api.OK
}

// Open reads the frame at the beginning of bytes, and how many bytes it has.
func Open(b []byte) (byte, []byte, int, api.Errno) {
	if len(b) < headSize {
		return 0, nil, 0, api.ErrShort
	}
	if !sumFits(b, sumAt) {
		return 0, nil, 0, api.ErrSum
	}
	// The length has a sum of its own, which is asked first: one that is spoilt must not tell how much to wait for.
	length := fix32(b[1:])
	if length > api.MaxPacked {
		return 0, nil, 0, api.ErrLong
	}
	end := headSize + int(length)
	if len(b) < end+fixSize {
		return 0, nil, 0, api.ErrShort
	}
	if !sumFits(b, end) {
		return 0, nil, 0, api.ErrSum
	}
	return b[0], bytes.Clone(b[headSize:end]), end + fixSize, api.OK
}

// sumFits tells whether the four bytes at a place are the sum of all ahead of it.
func sumFits(b []byte, at int) bool {
	return fix32(b[at:]) == digest.Crc(b[:at])
}

// fix32 is the number that the first four bytes are.
func fix32(b []byte) uint32 {
	return uint32(b[0])<<24 | uint32(b[1])<<16 | uint32(b[2])<<8 | uint32(b[3])
}
