package digest

import (
	"bytes"
	"slices"

	"estuary/api"
)

const (
	digits    = "0123456789abcdef"
	hexLength = 64
)

// Hex writes a hash as hex digits.
func Hex(h api.Hash) string {
	return Short(h, hexLength)
}

// Short is a hash's first n digits.
func Short(h api.Hash, n int) string {
	n = min(max(n, 0), hexLength)
	text := make([]byte, n)
	for i := range text {
		text[i] = digits[digitAt(h, i)]
	}
	return string(text)
}

// UnHex reads what Hex writes; the place of the fault, where it has one.
func UnHex(s string) (api.Hash, api.Errno, int) {
	good := goodDigits(s)
	if good != hexLength || len(s) != hexLength {
		return api.Hash{}, api.ErrHex, good
	}
	var h api.Hash
	for i := range h {
		h[i] = digitValue(s[2*i])<<4 | digitValue(s[2*i+1])
	}
	return h, api.OK, 0
}

// Compare tells which of two hashes comes first (-1, 0, 1).
func Compare(a, b api.Hash) int {
	return bytes.Compare(a[:], b[:])
}

// Find is the one hash of a list that begins with these digits.
func Find(prefix string, l []api.Hash) (api.Hash, api.Errno) {
	if len(prefix) > hexLength || goodDigits(prefix) < len(prefix) {
		return api.Hash{}, api.ErrHex
	}
	var found api.Hash
	why := api.ErrNone
	for _, h := range l {
		if !begins(h, prefix) {
			continue
		}
		if why == api.OK && h != found {
			return api.Hash{}, api.ErrMany
		}
		found, why = h, api.OK
	}
	return found, why
}

// Lead is the least number of digits by which each hash of a list is told from the others.
func Lead(l []api.Hash) int {
	sorted := slices.Clone(l)
	slices.SortFunc(sorted, Compare)
	lead := 0
	for i := 1; i < len(sorted); i++ {
		if sorted[i-1] != sorted[i] {
			lead = max(lead, common(sorted[i-1], sorted[i])+1)
		}
	}
	return lead
}

// goodDigits is how many of the first 64 bytes of a text stand ahead of the first that is no digit.
func goodDigits(s string) int {
	n := 0
	for n < len(s) && n < hexLength && isDigit(s[n]) {
		n++
	}
	return n
}

func isDigit(c byte) bool {
	return '0' <= c && c <= '9' || 'a' <= c && c <= 'f'
}

func digitValue(c byte) byte {
	if c >= 'a' {
		return c - 'a' + 10
	}
	return c - '0'
}

// digitAt is the value of a hash's digit number i.
func digitAt(h api.Hash, i int) byte {
	if i%2 == 0 {
		return h[i/2] >> 4
	}
	return h[i/2] & 15
}

func begins(h api.Hash, prefix string) bool {
	for i := range len(prefix) {
		if digitAt(h, i) != digitValue(prefix[i]) {
			return false
		}
	}
	return true
}

// common is with how many digits both of two unlike hashes begin.
func common(a, b api.Hash) int {
	n := 0
	for n < hexLength && digitAt(a, n) == digitAt(b, n) {
		n++
	}
	return n
}
