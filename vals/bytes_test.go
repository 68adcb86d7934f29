package vals

import (
	"bytes"
	"math"
	"slices"
	"testing"

	"landfall/api"
	"landfall/blake"
)

// sets are some, at the edges and between.
func sets() [][]api.Validator {
	full := some(64, 0, 1)
	for i := range full {
		full[i].Power = most - i
	}
	all := [][]api.Validator{
		of(0, 1),
		of(last, most),
		of(10, 5),
		of(1, 5, 2, 7),
		of(1, 255, 2, 256, 3, 65535, 4, 65536, 5, most-1, 6, most),
		of(0x01020304, 9, 0x02020304, 9),
		some(63, 5, 7),
		some(64, last-63, 1),
		full,
	}
	for _, l := range lists(3, []int{0, 1, last}, []int{1, 256, most}) {
		if wantCheck(l) == api.OK {
			all = append(all, l)
		}
	}
	return all
}

// wantFault makes sure that bytes are no set, and why.
func wantFault(t *testing.T, b []byte, e api.Errno, at int) {
	t.Helper()
	if l, f := Decode(b); f != (api.Fault{Err: e, At: at}) || len(l) != 0 {
		t.Errorf("% x: %v, %v, not %v at %d", b, l, f, e, at)
	}
}

// TestEncode holds the bytes, which are written here by other means; what is read of them; and their hash.
func TestEncode(t *testing.T) {
	for _, l := range sets() {
		is, want := roomy(l), bytesOf(l)
		b, e := Encode(is)
		if !bytes.Equal(b, want) || e != api.OK {
			t.Errorf("%v: % x, %v", l, b, e)
		}
		if h, e := Hash(is); h != blake.Sum(want) || e != api.OK {
			t.Error(l, h, e)
		}
		wantSame(t, is, roomy(l))
		if got, f := Decode(want); !slices.Equal(got, l) || f != (api.Fault{}) {
			t.Error(l, got, f)
		}
		if !bytes.Equal(want, bytesOf(l)) {
			t.Errorf("%v: its bytes were changed to % x", l, want)
		}
	}
}

// TestEncodeExample is the chapter's; the hash's text was worked out by another program.
func TestEncodeExample(t *testing.T) {
	b, e := Encode(of(0x0a, 5))
	if string(b) != "\x01\x01\x00\x00\x00\x0a\x01\x05" || e != api.OK {
		t.Errorf("% x, %v", b, e)
	}
	const want = "a446d53e0581821f911b7ffc189a4c43e97c87974b1a7487b38bd793fa3694ab"
	if h, e := Hash(of(0x0a, 5)); blake.Text(h) != want || e != api.OK {
		t.Error(blake.Text(h), e)
	}
}

// TestNoBytes holds that what is not a set has neither bytes nor a hash, but the error that Check tells.
func TestNoBytes(t *testing.T) {
	all := lists(3, []int{0, 1, 2}, []int{-1, 0, 1, most + 1})
	for _, r := range edges() {
		all = append(all, r.l)
	}
	for _, l := range all {
		want := wantCheck(l)
		if b, e := Encode(l); e != want || (len(b) == 0) != (e != api.OK) {
			t.Errorf("%v: % x, %v, not %v", l, b, e, want)
		}
		if h, e := Hash(l); e != want || (h == api.Hash{}) != (e != api.OK) {
			t.Error(l, h, e, want)
		}
	}
}

// starts tells at which places of a list's bytes something begins: its number, then a key and a power of each.
func starts(l []api.Validator) []int {
	at := []int{0}
	end := len(numBytes(len(l)))
	for _, v := range l {
		at = append(at, end, end+4)
		end += 4 + len(numBytes(v.Power))
	}
	return at
}

// TestCutOff reads bytes that are cut off: ErrShort where the number, key or power begins that is not there.
func TestCutOff(t *testing.T) {
	for _, l := range sets() {
		b := bytesOf(l)
		for n := range b {
			at := 0
			for _, start := range starts(l) {
				if start <= n {
					at = start
				}
			}
			wantFault(t, b[:n], api.ErrShort, at)
		}
	}
}

// TestMoreBytes reads bytes behind a set: ErrLong where they begin.
func TestMoreBytes(t *testing.T) {
	for _, l := range sets() {
		b := bytesOf(l)
		for _, more := range [][]byte{{0}, {1}, {255}, b} {
			wantFault(t, slices.Concat(b, more), api.ErrLong, len(b))
		}
	}
}

// TestBadSets reads the bytes of what is not a set: the error of Check, at 0, but only if the bytes are read to the end.
func TestBadSets(t *testing.T) {
	all := lists(3, []int{0, 1, last}, []int{0, 1, most, most + 1})
	for _, r := range edges() {
		if !slices.ContainsFunc(r.l, func(v api.Validator) bool { return v.Power < 0 }) {
			all = append(all, r.l)
		}
	}
	for _, l := range all {
		want, b := wantCheck(l), bytesOf(l)
		if want == api.OK {
			continue
		}
		wantFault(t, b, want, 0)
		if want == api.ErrLong {
			continue
		}
		wantFault(t, append(b, 0), api.ErrLong, len(b))
		if len(l) > 0 {
			s := starts(l)
			wantFault(t, b[:len(b)-1], api.ErrShort, s[len(s)-1])
		}
	}
}

// TestFaults are those of each element, and which one is told if two apply.
func TestFaults(t *testing.T) {
	for _, r := range []struct {
		b   string
		err api.Errno
		at  int
	}{
		{"", api.ErrShort, 0},
		{"\x00", api.ErrShort, 0},
		{"\x00\x00", api.ErrLong, 1},
		{"\x01", api.ErrShort, 0},
		{"\x09", api.ErrForm, 0},
		{"\x01\x00", api.ErrForm, 0},
		{"\x02\x00\x01", api.ErrForm, 0},
		{"\x08\x80\x00\x00\x00\x00\x00\x00\x00", api.ErrForm, 0},
		// A number above 64 is told before anything behind it is looked at.
		{"\x01\x41", api.ErrLong, 0},
		{"\x01\x41\x00\x00\x00\x01", api.ErrLong, 0},
		{"\x01\xff", api.ErrLong, 0},
		{"\x02\x01\x00", api.ErrLong, 0},
		{"\x08\x7f\xff\xff\xff\xff\xff\xff\xff", api.ErrLong, 0},
		{"\x01\x40", api.ErrShort, 2},
		// The forms of powers: a number that is none, at the place where it begins.
		{"\x01\x01\x00\x00\x00\x0a\x09", api.ErrForm, 6},
		{"\x01\x01\x00\x00\x00\x0a\x01\x00", api.ErrForm, 6},
		{"\x01\x01\x00\x00\x00\x0a\x02\x00\x05", api.ErrForm, 6},
		{"\x01\x01\x00\x00\x00\x0a\x08\xff\xff\xff\xff\xff\xff\xff\xff", api.ErrForm, 6},
		{"\x01\x01\x00\x00\x00\x0a\x08\x80\x00\x00\x00\x00\x00\x00\x00\x00", api.ErrForm, 6},
		// The first fault of the bytes is told, and ahead of what Check would tell.
		{"\x01\x02\x00\x00\x00\x0a\x00\x00\x00\x00\x0a\x09", api.ErrForm, 11},
		{"\x01\x02\x00\x00\x00\x0a\x09\x00\x00\x00\x0a\x09", api.ErrForm, 6},
		{"\x01\x02\x00\x00\x00\x0a\x00", api.ErrShort, 7},
		{"\x01\x01\x00\x00\x00\x0a\x00\x00", api.ErrLong, 7},
		// Powers that are numbers, but no set's.
		{"\x01\x01\x00\x00\x00\x0a\x00", api.ErrRange, 0},
		{"\x01\x01\x00\x00\x00\x0a\x08\x40\x00\x00\x00\x00\x00\x00\x01", api.ErrRange, 0},
		{"\x01\x01\x00\x00\x00\x0a\x08\x7f\xff\xff\xff\xff\xff\xff\xff", api.ErrRange, 0},
		{"\x01\x02\x00\x00\x00\x0a\x00\x00\x00\x00\x0a\x01\x01", api.ErrRange, 0},
		{"\x01\x02\x00\x00\x00\x0a\x01\x01\x00\x00\x00\x0a\x00", api.ErrOrder, 0},
	} {
		wantFault(t, []byte(r.b), r.err, r.at)
	}
}

// TestNoOtherBytes holds P5.5 for bytes that were changed: what is still read as a set is written again as it is.
func TestNoOtherBytes(t *testing.T) {
	read := 0
	try := func(b []byte) {
		l, f := Decode(b)
		if f != (api.Fault{}) {
			if len(l) != 0 || f.Err == api.OK || f.At < 0 || f.At > len(b) {
				t.Errorf("% x: %v, %v", b, l, f)
			}
			return
		}
		read++
		if again, e := Encode(l); !bytes.Equal(again, b) || e != api.OK {
			t.Errorf("% x is written again as % x, %v", b, again, e)
		}
	}
	for _, l := range [][]api.Validator{of(10, 5), of(1, 255, 2, 256), of(0, 1, last, most), some(5, 300, 1)} {
		b := bytesOf(l)
		for at := range b {
			for x := range 256 {
				spoiled := slices.Clone(b)
				spoiled[at] = byte(x)
				try(spoiled)
				try(slices.Insert(slices.Clone(b), at, byte(x)))
			}
			try(slices.Delete(slices.Clone(b), at, at+1))
			try(b[at:])
		}
	}
	if read < 1000 {
		t.Error("too few are read:", read)
	}
}

// TestBytesAreNew holds that neither bytes nor a set share memory with an argument, or with what an earlier call told.
func TestBytesAreNew(t *testing.T) {
	l := of(1, 5, 2, 7)
	first, _ := Encode(l)
	second, _ := Encode(l)
	clear(first[:cap(first)])
	if !bytes.Equal(second, bytesOf(l)) {
		t.Errorf("% x", second)
	}
	one, _ := Decode(second)
	two, _ := Decode(second)
	clear(second[:cap(second)])
	spoil(one)
	if !slices.Equal(two, l) {
		t.Error(two)
	}
	b := append(bytesOf(l), 0, math.MaxUint8)
	if three, f := Decode(b[:len(b)-2]); !slices.Equal(three, l) || f != (api.Fault{}) {
		t.Error(three, f)
	}
	if !bytes.Equal(b, append(bytesOf(l), 0, math.MaxUint8)) {
		t.Errorf("% x", b)
	}
}
