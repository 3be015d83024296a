package bloom

import "math/bits"

const (
	byteBits  = 8
	wordBits  = 64
	wordBytes = wordBits / byteBits
)

// words are bits: bit n is the bit n modulo 64 of the word n / 64, so that each eight of them, from the lowest on, are a byte as it is written.
type words []uint64

// newWords has room for so many bits, none of them set.
func newWords(room int) words {
	return make(words, (room+wordBits-1)/wordBits)
}

func (w words) put(n int) {
	w[n/wordBits] |= 1 << (n % wordBits)
}

func (w words) has(n int) bool {
	return w[n/wordBits]>>(n%wordBits)&1 == 1
}

// join sets all that are set in others, of which there are as many.
func (w words) join(other words) {
	for i, x := range other {
		w[i] |= x
	}
}

// count is how many are set.
func (w words) count() int {
	n := 0
	for _, x := range w {
		n += bits.OnesCount64(x)
	}
	return n
}

// bytes are the first size bytes.
func (w words) bytes(size int) []byte {
	b := make([]byte, size)
	for i := range b {
		b[i] = byte(w[i/wordBytes] >> (i % wordBytes * byteBits))
	}
	return b
}

// load makes the bits those that bytes say, whatever was set ahead; there is room for all of them.
func (w words) load(b []byte) {
	clear(w)
	for i, x := range b {
		w[i/wordBytes] |= uint64(x) << (i % wordBytes * byteBits)
	}
}
