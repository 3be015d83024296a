// Package digest makes hashes, sums and tags of bytes. See ../../shared/doc/01-digest.md.
package digest

import "estuary/api"

const (
	innerPad = 54
	outerPad = 92
)

// crcNibbles is what the register becomes for each of its four lowest bits: half a byte a step, since a table for whole bytes would be too long.
var crcNibbles = [16]uint32{
	0x00000000, 0x1db71064, 0x3b6e20c8, 0x26d930ac, 0x76dc4190, 0x6b6b51f4, 0x4db26158, 0x5005713c,
	0xedb88320, 0xf00f9344, 0xd6d6a3e8, 0xcb61b38c, 0x9b64c2b0, 0x86d3d2d4, 0xa00ae278, 0xbdbdf21c,
}

// Mac is the HMAC-SHA-256 of bytes by a key.
func Mac(key []byte, b []byte) api.Hash {
	block := keyBlock(key)
	inner := padded(block, innerPad)
	inner.Write(b)
	tag := inner.Sum()
	outer := padded(block, outerPad)
	outer.Write(tag[:])
	return outer.Sum()
}

func keyBlock(key []byte) [blockSize]byte {
	var block [blockSize]byte
	if len(key) > blockSize {
		sum := Sum(key)
		copy(block[:], sum[:])
	} else {
		copy(block[:], key)
	}
	return block
}

func padded(block [blockSize]byte, pad byte) *Hasher {
	for i := range block {
		block[i] ^= pad
	}
	h := New()
	h.Write(block[:])
	return h
}

// Crc is the CRC-32 of bytes.
func Crc(b []byte) uint32 {
	register := ^uint32(0)
	for _, v := range b {
		register ^= uint32(v)
		register = register>>4 ^ crcNibbles[register&15]
		register = register>>4 ^ crcNibbles[register&15]
	}
	return ^register
}
