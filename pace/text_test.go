package pace

import (
	"fmt"
	"math"
	"strings"
	"testing"

	"landfall/api"
)

func TestBitsAndText(t *testing.T) {
	for _, r := range []struct {
		x    float64
		want uint64
		text string
	}{
		{0, 0, "0000000000000000"},
		{minus, 1 << 63, "8000000000000000"},
		{1, 0x3FF0000000000000, "3ff0000000000000"},
		{-1, 0xBFF0000000000000, "bff0000000000000"},
		{0.125, 0x3FC0000000000000, "3fc0000000000000"},
		{0.1, 0x3FB999999999999A, "3fb999999999999a"},
		{least, 1, "0000000000000001"},
		{-least, 1<<63 + 1, "8000000000000001"},
		{most, 0x7FEFFFFFFFFFFFFF, "7fefffffffffffff"},
		{-most, 0xFFEFFFFFFFFFFFFF, "ffefffffffffffff"},
		{inf, 0x7FF0000000000000, "7ff0000000000000"},
		{-inf, 0xFFF0000000000000, "fff0000000000000"},
		{math.Float64frombits(0x0123456789ABCDEF), 0x0123456789ABCDEF, "0123456789abcdef"},
	} {
		if got := Bits(r.x); got != r.want {
			t.Errorf("%v: %x", r, got)
		}
		if s := Text(r.x); s != r.text {
			t.Errorf("%v: %s", r, s)
		}
	}
}

// TestNaNsAreOne holds P2.2: all NaNs have one form, and no other one's bits are read.
func TestNaNsAreOne(t *testing.T) {
	for _, n := range nans() {
		x := math.Float64frombits(n)
		if Bits(x) != 0x7FF8000000000000 || Text(x) != "7ff8000000000000" {
			t.Errorf("%x: %x, %s", n, Bits(x), Text(x))
		}
		want := api.ErrForm
		if n == 0x7FF8000000000000 {
			want = api.OK
		}
		x, e := Of(n)
		y, f := Read(fmt.Sprintf("%016x", n))
		if e != want || f != want {
			t.Errorf("%x: %v, %v, not %v", n, e, f, want)
		}
		if e == api.OK && !math.IsNaN(x) || e != api.OK && math.Float64bits(x) != 0 {
			t.Errorf("%x: %v", n, x)
		}
		if f == api.OK && !math.IsNaN(y) || f != api.OK && math.Float64bits(y) != 0 {
			t.Errorf("%x, from its text: %v", n, y)
		}
	}
}

// TestReadBack holds P2.4: a form and a text are read as the pace that they are of.
func TestReadBack(t *testing.T) {
	for _, x := range paces() {
		if y, e := Of(Bits(x)); e != api.OK || Compare(x, y) != 0 {
			t.Error(x, y, e)
		}
		if y, e := Read(Text(x)); e != api.OK || Compare(x, y) != 0 {
			t.Error(x, y, e)
		}
		if want := fmt.Sprintf("%016x", Bits(x)); Text(x) != want {
			t.Error(Text(x), want)
		}
	}
}

func TestOfEachExponent(t *testing.T) {
	for high := range uint64(1 << 12) {
		for _, low := range []uint64{0, 1, 1 << 51, 1<<52 - 1} {
			n := high<<52 | low
			x, e := Of(n)
			if no := high&0x7FF == 0x7FF && low != 0 && n != 0x7FF8000000000000; no != (e == api.ErrForm) || !no && (e != api.OK || Bits(x) != n) {
				t.Errorf("%x: %v, %v", n, x, e)
			}
		}
	}
}

func TestReadRefuses(t *testing.T) {
	for _, s := range []string{
		"",
		"3",
		"3ff000000000000",
		"3ff00000000000000",
		"03ff0000000000000",
		"3ff0000000000000 ",
		" 3ff0000000000000",
		" 3ff000000000000",
		"3FF0000000000000",
		"3Ff0000000000000",
		"3ff000000000000A",
		"3ff000000000000g",
		"3ff000000000000`",
		"3ff000000000000/",
		"3ff000000000000:",
		"3ff000000000000\x00",
		"3ff000000000000\n",
		"3ff000000000000\xff",
		"3ff0000000000_00",
		"0x3ff00000000000",
		"+ff0000000000000",
		"-ff0000000000000",
		"3ff00000000000é",
		"3ff000000000000\uff10",
		strings.Repeat("\uff10", 16),
		"7ff8000000000001",
		"fff8000000000000",
		"7FF8000000000000",
		"NaN",
		strings.Repeat("0", 1<<16),
	} {
		if x, e := Read(s); e != api.ErrForm || math.Float64bits(x) != 0 {
			t.Errorf("%.40q: %v, %v", s, x, e)
		}
	}
}

// TestNoOtherText holds P2.4: each text that is read is the one that is written.
func TestNoOtherText(t *testing.T) {
	for _, s := range []string{"0123456789abcdef", "3ff0000000000000", "8000000000000000", "7ff8000000000000", "fff0000000000000"} {
		for i := range s {
			for c := range 256 {
				text := s[:i] + string([]byte{byte(c)}) + s[i+1:]
				x, e := Read(text)
				digit := c >= '0' && c <= '9' || c >= 'a' && c <= 'f'
				if e == api.OK && (!digit || Text(x) != text) || e != api.OK && (e != api.ErrForm || math.Float64bits(x) != 0) {
					t.Errorf("%q: %v, %v", text, x, e)
				}
				if digit && s[0] < '7' && i > 0 && e != api.OK {
					t.Errorf("%q is not read: %v", text, e)
				}
			}
		}
	}
}
