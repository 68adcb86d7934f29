package wide

import (
	"cmp"
	"math/bits"

	"landfall/api"
)

// product is a number of three words, the least first. A wide times an int is below 2^191, so that it always fits.
type product [3]uint64

// add adds a word at a place, and carries what is too great on to the places above.
func (p *product) add(at int, word uint64) {
	for i := at; i < len(p); i++ {
		p[i], word = bits.Add64(p[i], word, 0)
	}
}

// compare tells -1, 0 or 1: whether p is less than q, equal to it, or greater.
func (p product) compare(q product) int {
	return cmp.Or(cmp.Compare(p[2], q[2]), cmp.Compare(p[1], q[1]), cmp.Compare(p[0], q[0]))
}

// multiply tells a times n, which is not less than 0.
func multiply(a api.Wide, n int) product {
	var p product
	for at, word := range [2]uint64{a.Lo, a.Hi} {
		hi, lo := bits.Mul64(word, uint64(n))
		p.add(at, lo)
		p.add(at+1, hi)
	}
	return p
}
