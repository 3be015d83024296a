package digest

import (
	"math/bits"

	"estuary/api"
)

const (
	blockSize  = 64
	lengthSize = 8
)

// firstState is the first 32 bits behind the point of the square roots of the first eight primes.
var firstState = [8]uint32{
	0x6a09e667, 0xbb67ae85, 0x3c6ef372, 0xa54ff53a, 0x510e527f, 0x9b05688c, 0x1f83d9ab, 0x5be0cd19,
}

// roundKeys is the first 32 bits behind the point of the cube roots of the first 64 primes.
var roundKeys = [64]uint32{
	0x428a2f98, 0x71374491, 0xb5c0fbcf, 0xe9b5dba5, 0x3956c25b, 0x59f111f1, 0x923f82a4, 0xab1c5ed5,
	0xd807aa98, 0x12835b01, 0x243185be, 0x550c7dc3, 0x72be5d74, 0x80deb1fe, 0x9bdc06a7, 0xc19bf174,
	0xe49b69c1, 0xefbe4786, 0x0fc19dc6, 0x240ca1cc, 0x2de92c6f, 0x4a7484aa, 0x5cb0a9dc, 0x76f988da,
	0x983e5152, 0xa831c66d, 0xb00327c8, 0xbf597fc7, 0xc6e00bf3, 0xd5a79147, 0x06ca6351, 0x14292967,
	0x27b70a85, 0x2e1b2138, 0x4d2c6dfc, 0x53380d13, 0x650a7354, 0x766a0abb, 0x81c2c92e, 0x92722c85,
	0xa2bfe8a1, 0xa81a664b, 0xc24b8b70, 0xc76c51a3, 0xd192e819, 0xd6990624, 0xf40e3585, 0x106aa070,
	0x19a4c116, 0x1e376c08, 0x2748774c, 0x34b0bcb5, 0x391c0cb3, 0x4ed8aa4a, 0x5b9cca4f, 0x682e6ff3,
	0x748f82ee, 0x78a5636f, 0x84c87814, 0x8cc70208, 0x90befffa, 0xa4506ceb, 0xbef9a3f7, 0xc67178f2,
}

// Sum is the SHA-256 of bytes.
func Sum(b []byte) api.Hash {
	h := New()
	h.Write(b)
	return h.Sum()
}

// Hasher is a SHA-256 that is under way: the state behind all whole blocks, and the bytes of the block that is not whole yet.
type Hasher struct {
	state [8]uint32
	block [blockSize]byte
	size  int
}

// New has been written nothing.
func New() *Hasher {
	return &Hasher{state: firstState}
}

// Write goes on with bytes.
func (h *Hasher) Write(b []byte) {
	if h == nil {
		return
	}
	used := h.size % blockSize
	h.size += len(b)
	if used > 0 {
		n := copy(h.block[used:], b)
		if used+n < blockSize {
			return
		}
		h.state = mixed(h.state, h.block[:])
		b = b[n:]
	}
	for len(b) >= blockSize {
		h.state = mixed(h.state, b[:blockSize])
		b = b[blockSize:]
	}
	copy(h.block[:], b)
}

// Sum is that of all that was written.
func (h *Hasher) Sum() api.Hash {
	if h == nil {
		return api.Hash{}
	}
	// The padding goes into a copy, so that more may be written behind.
	last := *h
	last.Write(padding(h.size))
	var sum api.Hash
	for i, v := range last.state {
		for j := range 4 {
			sum[4*i+j] = byte(v >> (24 - 8*j))
		}
	}
	return sum
}

// Len is how many bytes were written.
func (h *Hasher) Len() int {
	if h == nil {
		return 0
	}
	return h.size
}

// Fork is another one that goes on by itself.
func (h *Hasher) Fork() *Hasher {
	if h == nil {
		return nil
	}
	other := *h
	return &other
}

// padding is what stands behind so many bytes to make whole blocks of them.
func padding(size int) []byte {
	room := blockSize - (size+lengthSize)%blockSize
	pad := make([]byte, room+lengthSize)
	pad[0] = 128
	count := uint64(size) * 8
	for i := range lengthSize {
		pad[room+i] = byte(count >> (56 - 8*i))
	}
	return pad
}

// mixed is the state with a block taken in. The eight numbers have names of their own, since an array would be copied in each round.
func mixed(s [8]uint32, block []byte) [8]uint32 {
	a, b, c, d, e, f, g, h := s[0], s[1], s[2], s[3], s[4], s[5], s[6], s[7]
	for i, w := range schedule(block) {
		t1 := h + turned(e, 6, 11, 25) + (e&f | ^e&g) + roundKeys[i] + w
		t2 := turned(a, 2, 13, 22) + (a&b | a&c | b&c)
		h, g, f, e, d, c, b, a = g, f, e, d+t1, c, b, a, t1+t2
	}
	return [8]uint32{s[0] + a, s[1] + b, s[2] + c, s[3] + d, s[4] + e, s[5] + f, s[6] + g, s[7] + h}
}

// schedule is the block's sixteen numbers and the 48 that are made of them.
func schedule(block []byte) [64]uint32 {
	var w [64]uint32
	for i := range 16 {
		w[i] = uint32(block[4*i])<<24 | uint32(block[4*i+1])<<16 | uint32(block[4*i+2])<<8 | uint32(block[4*i+3])
	}
	for i := 16; i < len(w); i++ {
		a, b := w[i-15], w[i-2]
		s0 := bits.RotateLeft32(a, -7) ^ bits.RotateLeft32(a, -18) ^ a>>3
		s1 := bits.RotateLeft32(b, -17) ^ bits.RotateLeft32(b, -19) ^ b>>10
		w[i] = s1 + w[i-7] + s0 + w[i-16]
	}
	return w
}

// turned is a number turned right by three counts, taken together by exclusive or.
func turned(v uint32, first, second, third int) uint32 {
	return bits.RotateLeft32(v, -first) ^ bits.RotateLeft32(v, -second) ^ bits.RotateLeft32(v, -third)
}
