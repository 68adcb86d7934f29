package wide

import (
	"math"
	"strings"
	"testing"

	"landfall/api"
)

// most is the text of 2^128 - 1.
const most = "340282366920938463463374607431768211455"

func TestText(t *testing.T) {
	for _, r := range []struct {
		a    api.Wide
		want string
	}{
		{api.Wide{}, "0"},
		{api.Wide{Lo: 9}, "9"},
		{api.Wide{Lo: 10}, "10"},
		{api.Wide{Lo: 1000}, "1000"},
		{api.Wide{Lo: math.MaxInt}, "9223372036854775807"},
		{api.Wide{Lo: ones}, "18446744073709551615"},
		{api.Wide{Hi: 1}, "18446744073709551616"},
		{api.Wide{Hi: 1 << 63}, "170141183460469231731687303715884105728"},
		{api.Wide{Hi: ones, Lo: ones}, most},
	} {
		if s := Text(r.a); s != r.want {
			t.Error(r, s)
		}
	}
	for _, a := range wides() {
		if s := Text(a); s != bigOf(a).String() {
			t.Error(a, s)
		}
	}
}

func TestReadFaults(t *testing.T) {
	digits := strings.Repeat("1", 1<<16)
	for _, r := range []struct {
		s    string
		want api.Fault
	}{
		{"", api.Fault{Err: api.ErrShort}},
		{"a", api.Fault{Err: api.ErrForm}},
		{"1a", api.Fault{Err: api.ErrForm, At: 1}},
		{"1a2b", api.Fault{Err: api.ErrForm, At: 1}},
		{"-1", api.Fault{Err: api.ErrForm}},
		{"+1", api.Fault{Err: api.ErrForm}},
		{" 1", api.Fault{Err: api.ErrForm}},
		{"1 ", api.Fault{Err: api.ErrForm, At: 1}},
		{"1_0", api.Fault{Err: api.ErrForm, At: 1}},
		{"0x1", api.Fault{Err: api.ErrForm, At: 1}},
		{"1/", api.Fault{Err: api.ErrForm, At: 1}},
		{"1:", api.Fault{Err: api.ErrForm, At: 1}},
		{"1\x00", api.Fault{Err: api.ErrForm, At: 1}},
		{"12\xff", api.Fault{Err: api.ErrForm, At: 2}},
		{"1\uff11", api.Fault{Err: api.ErrForm, At: 1}},
		{"1\n", api.Fault{Err: api.ErrForm, At: 1}},
		{"07", api.Fault{Err: api.ErrForm}},
		{"00", api.Fault{Err: api.ErrForm}},
		{"00a", api.Fault{Err: api.ErrForm, At: 2}},
		{"0" + most, api.Fault{Err: api.ErrForm}},
		{"0" + digits, api.Fault{Err: api.ErrForm}},
		{digits + "x", api.Fault{Err: api.ErrForm, At: len(digits)}},
		{digits, api.Fault{Err: api.ErrRange}},
		{most[:38] + "6", api.Fault{Err: api.ErrRange}},
		{most[:37] + "60", api.Fault{Err: api.ErrRange}},
		{"4" + most[1:], api.Fault{Err: api.ErrRange}},
		{"1" + most, api.Fault{Err: api.ErrRange}},
		{strings.Repeat("9", 39), api.Fault{Err: api.ErrRange}},
		{"1" + strings.Repeat("0", 39), api.Fault{Err: api.ErrRange}},
	} {
		if a, f := Read(r.s); f != r.want || a != (api.Wide{}) {
			t.Errorf("%.50q: %v, %v, not %v", r.s, a, f, r.want)
		}
	}
}

// TestReadBack holds P1.5: what is written is read as it was.
func TestReadBack(t *testing.T) {
	for _, a := range wides() {
		if b, f := Read(Text(a)); b != a || f != (api.Fault{}) {
			t.Error(a, b, f)
		}
	}
	for _, s := range []string{"0", "7", "10", "340282366920938463463374607431768211449", most[:38], most} {
		if a, f := Read(s); f != (api.Fault{}) || Text(a) != s {
			t.Error(s, a, f)
		}
	}
}

// TestNoOtherText holds P1.5: each text that is read is the one that is written; so no two are one number.
func TestNoOtherText(t *testing.T) {
	letters := "019/:a-+ "
	var try func(s string)
	try = func(s string) {
		if a, f := Read(s); f == (api.Fault{}) && Text(a) != s {
			t.Errorf("%q is read as %v", s, a)
		}
		if len(s) < 4 {
			for i := range letters {
				try(s + letters[i:i+1])
			}
		}
	}
	try("")
}

// TestDigitsStop makes sure that whoever goes through digits may leave.
func TestDigitsStop(t *testing.T) {
	for d := range digits(api.Wide{Lo: 1234}) {
		if d != '4' {
			t.Error(d)
		}
		break
	}
}
