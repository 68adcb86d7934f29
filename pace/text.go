package pace

import (
	"math"
	"strings"

	"landfall/api"
)

// nan is the form of each NaN.
const nan = 0x7FF8000000000000

// digits are those of base 16, each at its number.
const digits = "0123456789abcdef"

// digitBits is how many bits a digit has, textLen how many digits a form.
const (
	digitBits = 4
	textLen   = 64 / digitBits
)

// Bits tells a pace's form.
func Bits(x float64) uint64 {
	if math.IsNaN(x) {
		return nan
	}
	return math.Float64bits(x)
}

// Of tells the pace whose form is bits: ErrForm if there is none.
func Of(bits uint64) (float64, api.Errno) {
	x := math.Float64frombits(bits)
	if Bits(x) != bits {
		return 0, api.ErrForm
	}
	return x, api.OK
}

// Text tells the digits of a pace's form, the highest first.
func Text(x float64) string {
	form := Bits(x)
	b := make([]byte, 0, textLen)
	for i := range textLen {
		place := textLen - 1 - i
		b = append(b, digits[form>>(digitBits*place)&0xf])
	}
	return string(b)
}

// Read tells the pace whose Text is s: ErrForm if there is none.
func Read(s string) (float64, api.Errno) {
	if len(s) != textLen {
		return 0, api.ErrForm
	}
	form := uint64(0)
	for i := range len(s) {
		digit := strings.IndexByte(digits, s[i])
		if digit < 0 {
			return 0, api.ErrForm
		}
		form = form<<digitBits | uint64(digit)
	}
	return Of(form)
}
