// Package wide is layer 1: numbers of 128 bits: see shared/doc/01-wide.md.
package wide

import (
	"cmp"
	"math"
	"math/bits"

	"landfall/api"
)

// Of tells a number as a wide: ErrRange if it is less than 0.
func Of(n int) (api.Wide, api.Errno) {
	if n < 0 {
		return api.Wide{}, api.ErrRange
	}
	return api.Wide{Lo: uint64(n)}, api.OK
}

// Plus tells the sum of two: ErrFull if 128 bits do not hold it.
func Plus(a, b api.Wide) (api.Wide, api.Errno) {
	lo, carry := bits.Add64(a.Lo, b.Lo, 0)
	hi, carry := bits.Add64(a.Hi, b.Hi, carry)
	if carry != 0 {
		return api.Wide{}, api.ErrFull
	}
	return api.Wide{Hi: hi, Lo: lo}, api.OK
}

// Times tells a product: ErrRange if n is less than 0, ErrFull if 128 bits do not hold it.
func Times(a api.Wide, n int) (api.Wide, api.Errno) {
	if n < 0 {
		return api.Wide{}, api.ErrRange
	}
	p := multiply(a, n)
	if p[2] != 0 {
		return api.Wide{}, api.ErrFull
	}
	return api.Wide{Hi: p[1], Lo: p[0]}, api.OK
}

// Sum tells the sum of a list: ErrRange if one of it is less than 0.
func Sum(l []int) (api.Wide, api.Errno) {
	return fold(l, func(sum api.Wide, n int) (api.Wide, api.Errno) {
		x, e := Of(n)
		if e != api.OK {
			return api.Wide{}, e
		}
		return Plus(sum, x)
	})
}

// Cmp tells -1, 0 or 1: whether a is less than b, equal to it, or greater.
func Cmp(a, b api.Wide) int {
	return cmp.Or(cmp.Compare(a.Hi, b.Hi), cmp.Compare(a.Lo, b.Lo))
}

// More tells whether a times n is greater than b times m, however great both are: ErrRange if n or m is less than 0.
func More(a api.Wide, n int, b api.Wide, m int) (bool, api.Errno) {
	if n < 0 || m < 0 {
		return false, api.ErrRange
	}
	p, q := multiply(a, n), multiply(b, m)
	return p.compare(q) > 0, api.OK
}

// Clamp tells a, but at most the greatest int.
func Clamp(a api.Wide) int {
	if a.Hi != 0 || a.Lo > math.MaxInt {
		return math.MaxInt
	}
	return int(a.Lo)
}

// fold puts the elements of a list together one after the other, up to the first one at which f tells an error, and passes that on.
func fold[T, S any](l []T, f func(S, T) (S, api.Errno)) (S, api.Errno) {
	var sum, none S
	for _, x := range l {
		next, e := f(sum, x)
		if e != api.OK {
			return none, e
		}
		sum = next
	}
	return sum, api.OK
}
