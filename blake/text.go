package blake

import (
	"bytes"

	"landfall/api"
)

const (
	// digits are those of base 16, each at its value.
	digits = "0123456789abcdef"

	// textLen is how many digits the text of a hash has.
	textLen = 64
)

// Text tells the text of a hash.
func Text(h api.Hash) string {
	var t [textLen]byte
	for i, b := range h {
		t[2*i] = digits[b>>4]
		t[2*i+1] = digits[b&15]
	}
	return string(t[:])
}

// Read tells the hash of a text.
func Read(s string) (api.Hash, api.Errno) {
	if len(s) != textLen {
		return api.Hash{}, api.ErrForm
	}
	var h api.Hash
	for at, digit := range s {
		n, ok := value(digit)
		if !ok {
			return api.Hash{}, api.ErrForm
		}
		h[at/2] = h[at/2]<<4 | n
	}
	return h, api.OK
}

// Compare tells -1, 0 or 1: whether a is less than b, equal to it, or greater, by the first byte in which they differ.
func Compare(a, b api.Hash) int {
	return bytes.Compare(a[:], b[:])
}

// value tells the value of a digit of base 16, and whether it is one.
func value(digit rune) (byte, bool) {
	switch {
	case '0' <= digit && digit <= '9':
		return byte(digit - '0'), true
	case 'a' <= digit && digit <= 'f':
		return byte(digit-'a') + 10, true
	default:
		return 0, false
	}
}
