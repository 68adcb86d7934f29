package wide

import (
	"iter"
	"math/bits"
	"slices"

	"landfall/api"
)

// base is how many digits there are.
const base = 10

// maxDigits is how many digits 2^128 - 1 has.
const maxDigits = 39

// Text tells a number's decimal digits.
func Text(a api.Wide) string {
	b := slices.Collect(digits(a))
	slices.Reverse(b)
	return string(b)
}

// Read tells the number whose Text is s, or what is wrong with s, and where.
func Read(s string) (api.Wide, api.Fault) {
	if f := malformed(s); f.Err != api.OK {
		return api.Wide{}, f
	}
	if len(s) > maxDigits { // a text of any length is not to be copied
		return api.Wide{}, api.Fault{Err: api.ErrRange}
	}
	a, e := fold([]byte(s), push)
	if e != api.OK {
		return api.Wide{}, api.Fault{Err: api.ErrRange}
	}
	return a, api.Fault{}
}

// digits goes through a number's digits from the last one on, as that is the one that a division leaves.
func digits(a api.Wide) iter.Seq[byte] {
	return func(yield func(byte) bool) {
		for {
			var rest uint64
			a, rest = split(a)
			if !yield('0'+byte(rest)) || a == (api.Wide{}) {
				return
			}
		}
	}
}

// split tells a number without its last digit, and that digit.
func split(a api.Wide) (api.Wide, uint64) {
	hi, rest := a.Hi/base, a.Hi%base
	lo, rest := bits.Div64(rest, a.Lo, base)
	return api.Wide{Hi: hi, Lo: lo}, rest
}

// push tells a number with a digit more behind its others: ErrFull if 128 bits do not hold it.
func push(a api.Wide, digit byte) (api.Wide, api.Errno) {
	a, e := Times(a, base)
	if e != api.OK {
		return api.Wide{}, e
	}
	return Plus(a, api.Wide{Lo: uint64(digit - '0')})
}

// malformed tells why a text can't be a number's digits, however great that is.
func malformed(s string) api.Fault {
	if s == "" {
		return api.Fault{Err: api.ErrShort}
	}
	for i := range len(s) {
		if s[i] < '0' || s[i] > '9' {
			return api.Fault{Err: api.ErrForm, At: i}
		}
	}
	if len(s) > 1 && s[0] == '0' {
		return api.Fault{Err: api.ErrForm}
	}
	return api.Fault{}
}
