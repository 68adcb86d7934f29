package sigs

import (
	"bytes"
	"cmp"

	"landfall/api"
)

// signature is one that has an order.
type signature api.Sig

// compare tells whether a signature is less than another one (-1), equal (0) or greater (1).
func (s signature) compare(o signature) int {
	return cmp.Or(
		compareKeys(s.Key, o.Key),
		bytes.Compare(s.Hash[:], o.Hash[:]),
		cmp.Compare(s.Sig, o.Sig),
	)
}

func compareKeys(a, b api.Key) int {
	return bytes.Compare(a[:], b[:])
}
