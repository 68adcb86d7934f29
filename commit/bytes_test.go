package commit

import (
	"bytes"
	"slices"
	"strings"
	"testing"

	"landfall/api"
)

// wantFault makes sure that bytes are no commit, and why; and that they are as they were.
func wantFault(t *testing.T, b []byte, e api.Errno, at int) {
	t.Helper()
	was := slices.Clone(b)
	if c, f := Decode(b); f != (api.Fault{Err: e, At: at}) || !same(c, api.Commit{}) || len(c.Votes) != 0 {
		t.Errorf("% x: %v, %v, not %v at %d", b, c, f, e, at)
	}
	if !bytes.Equal(b, was) {
		t.Errorf("% x was changed to % x", was, b)
	}
}

// commits are some that are valid, at the edges and between.
func commits() []api.Commit {
	all := lists(3, []int{0, 1, 62, 63}, []int{0, 255, -1})
	for _, height := range []int{1, 2, 255, 256, 65535, 65536, highest - 1, highest} {
		all = append(all, of(height), of(height, 0, 7, 3, 9))
	}
	long := some(64, 0)
	for i := range long.Votes {
		long.Votes[i].Sig = 1 << i
	}
	for i := range long.Hash {
		long.Hash[i] = byte(255 - i)
	}
	all = append(all, some(1, 0), some(63, 1), some(64, 0), long, api.Commit{Height: 1})
	return slices.DeleteFunc(all, func(c api.Commit) bool { return wantCheck(c) != api.OK })
}

// TestEncodeForm writes out one commit's bytes.
func TestEncodeForm(t *testing.T) {
	b, e := Encode(of(5, 0, 7, 3, 0x0102030405060708))
	want := "\x01\x05\x01" + strings.Repeat("\x00", 31) + "\x01\x02\x00\x00\x00\x00\x00\x00\x00\x00\x07\x01\x03\x01\x02\x03\x04\x05\x06\x07\x08"
	if string(b) != want || e != api.OK {
		t.Errorf("% x, %v", b, e)
	}
	b, e = Encode(api.Commit{Height: 256})
	if want := "\x02\x01" + strings.Repeat("\x00", 34); string(b) != want || e != api.OK {
		t.Errorf("% x, %v", b, e)
	}
}

// TestEncode holds the bytes, which are written here by other means, and what is read of them.
func TestEncode(t *testing.T) {
	for _, c := range commits() {
		is, want := roomy(c), bytesOf(c)
		if b, e := Encode(is); !bytes.Equal(b, want) || e != api.OK {
			t.Errorf("%v: % x, %v", c, b, e)
		}
		wantSame(t, is, roomy(c))
		if got, f := Decode(want); !same(got, c) || f != (api.Fault{}) {
			t.Error(c, got, f)
		}
		if !bytes.Equal(want, bytesOf(c)) {
			t.Errorf("%v: its bytes were changed to % x", c, want)
		}
	}
}

// TestNoBytes holds that what is not valid has no bytes, but the error that Check tells.
func TestNoBytes(t *testing.T) {
	all := lists(3, []int{-1, 0, 1, 63, 64}, []int{7})
	for _, r := range edges() {
		all = append(all, r.c)
	}
	for _, c := range all {
		want := wantCheck(c)
		if b, e := Encode(c); e != want || (len(b) == 0) != (e != api.OK) {
			t.Errorf("%v: % x, %v, not %v", c, b, e, want)
		}
	}
}

// TestCutOff reads bytes that are cut off: ErrShort where the element begins that is not there.
func TestCutOff(t *testing.T) {
	for _, c := range commits() {
		b := bytesOf(c)
		for n := range b {
			at := 0
			for _, e := range elements(c) {
				if e.at <= n {
					at = e.at
				}
			}
			wantFault(t, b[:n], api.ErrShort, at)
		}
	}
}

// TestMoreBytes reads bytes behind a commit: ErrLong where they begin.
func TestMoreBytes(t *testing.T) {
	for _, c := range commits() {
		b := bytesOf(c)
		for _, more := range [][]byte{{0}, {1}, {255}, b} {
			wantFault(t, slices.Concat(b, more), api.ErrLong, len(b))
		}
	}
}

// TestNotValid reads the bytes of what is not valid: the error of Check, at 0, but only if the bytes are read to the end.
func TestNotValid(t *testing.T) {
	all := lists(3, []int{0, 1, 63, 64}, []int{7})
	for _, r := range edges() {
		all = append(all, r.c)
	}
	for _, c := range all {
		want := wantCheck(c)
		below := slices.ContainsFunc(c.Votes, func(v api.Vote) bool { return v.At < 0 })
		if want == api.OK || c.Height < 0 || below {
			continue
		}
		b, parts := bytesOf(c), elements(c)
		if len(c.Votes) > 64 {
			// The number is told ahead of all else that is wrong with it, and of what Check would tell.
			wantFault(t, b, api.ErrLong, parts[2].at)
			continue
		}
		wantFault(t, b, want, 0)
		wantFault(t, append(slices.Clone(b), 0), api.ErrLong, len(b))
		wantFault(t, b[:len(b)-1], api.ErrShort, parts[len(parts)-1].at)
	}
}

// TestFaults are those of each element, and which one is told if two apply; an h stands for a hash.
func TestFaults(t *testing.T) {
	h, sig := strings.Repeat("\x07", 32), strings.Repeat("\x09", 8)
	for _, r := range []struct {
		b   string
		err api.Errno
		at  int
	}{
		{"", api.ErrShort, 0},
		{"\x01", api.ErrShort, 0},
		{"\x01\x05", api.ErrShort, 2},
		{"\x01\x05h", api.ErrShort, 34},
		{"\x01\x05h\x01", api.ErrShort, 34},
		{"\x01\x05h\x01\x01", api.ErrShort, 36},
		{"\x01\x05h\x01\x01\x00", api.ErrShort, 37},
		// Heights that have not their one form; they are told ahead of all behind them.
		{"\x09h\x00", api.ErrForm, 0},
		{"\x01\x00h\x00", api.ErrForm, 0},
		{"\x02\x00\x05h\x00", api.ErrForm, 0},
		{"\x08\x80\x00\x00\x00\x00\x00\x00\x00h\x00", api.ErrForm, 0},
		{"\x01\x00h\x01\x41", api.ErrForm, 0},
		{"\x09", api.ErrForm, 0},
		// Numbers of votes: not their one form, more than 64.
		{"\x01\x05h\x09", api.ErrForm, 34},
		{"\x01\x05h\x01\x00", api.ErrForm, 34},
		{"\x01\x05h\x02\x00\x01\x00s", api.ErrForm, 34},
		{"\x01\x05h\x08\x80\x00\x00\x00\x00\x00\x00\x00", api.ErrForm, 34},
		{"\x01\x05h\x01\x41", api.ErrLong, 34},
		{"\x01\x05h\x01\x41\x01\x00", api.ErrLong, 34},
		{"\x01\x05h\x01\xff\x00s", api.ErrLong, 34},
		{"\x01\x05h\x02\x01\x00", api.ErrLong, 34},
		{"\x01\x05h\x08\x7f\xff\xff\xff\xff\xff\xff\xff", api.ErrLong, 34},
		{"\x00h\x01\x41", api.ErrLong, 33},
		{"\x02\x01\x00h\x01\x41", api.ErrLong, 35},
		{"\x04\x40\x00\x00\x01h\x01\x41", api.ErrLong, 37},
		{"\x08\x7f\xff\xff\xff\xff\xff\xff\xffh\x01\x41", api.ErrLong, 41},
		{"\x01\x05h\x01\x40", api.ErrShort, 36},
		// Places that have not their one form; the first of two; ahead of what Check would tell.
		{"\x01\x05h\x01\x01\x09s", api.ErrForm, 36},
		{"\x01\x05h\x01\x01\x01\x00s", api.ErrForm, 36},
		{"\x01\x05h\x01\x01\x02\x00\x03s", api.ErrForm, 36},
		{"\x01\x05h\x01\x02\x00s\x01\x00s", api.ErrForm, 45},
		{"\x01\x05h\x01\x02\x01\x00s\x01\x00s", api.ErrForm, 36},
		{"\x01\x05h\x01\x03\x01\x03s\x01\x03s\x09", api.ErrForm, 56},
		{"\x00h\x01\x01\x01\x00s", api.ErrForm, 35},
		{"\x00h\x01\x01\x01\x03", api.ErrShort, 37},
		{"\x00h\x01\x01\x01\x03s\x00", api.ErrLong, 45},
		{"\x01\x05h\x00\x00", api.ErrLong, 35},
		// Numbers, but no commit's.
		{"\x00h\x00", api.ErrRange, 0},
		{"\x04\x40\x00\x00\x01h\x00", api.ErrRange, 0},
		{"\x08\x7f\xff\xff\xff\xff\xff\xff\xffh\x00", api.ErrRange, 0},
		{"\x01\x05h\x01\x01\x01\x40s", api.ErrRange, 0},
		{"\x01\x05h\x01\x01\x08\x7f\xff\xff\xff\xff\xff\xff\xffs", api.ErrRange, 0},
		{"\x01\x05h\x01\x02\x01\x03s\x01\x03s", api.ErrOrder, 0},
		{"\x01\x05h\x01\x02\x01\x03s\x01\x02s", api.ErrOrder, 0},
		{"\x01\x05h\x01\x02\x01\x03s\x00s", api.ErrOrder, 0},
		{"\x00h\x01\x02\x01\x03s\x01\x02s", api.ErrRange, 0},
	} {
		b := strings.ReplaceAll(strings.ReplaceAll(r.b, "h", h), "s", sig)
		wantFault(t, []byte(b), r.err, r.at)
	}
}

// TestNumbers gives each number of votes up to some, with as many votes as there are, and with none.
func TestNumbers(t *testing.T) {
	for n := range 300 {
		c := some(n, 0)
		b, parts := bytesOf(c), elements(c)
		if n > 64 {
			wantFault(t, b, api.ErrLong, parts[2].at)
			wantFault(t, b[:parts[3].at], api.ErrLong, parts[2].at)
			continue
		}
		if got, f := Decode(b); !same(got, c) || f != (api.Fault{}) {
			t.Error(n, got, f)
		}
		if n > 0 {
			wantFault(t, b[:parts[3].at], api.ErrShort, parts[3].at)
		}
	}
}

// TestNoOtherBytes holds P7.5 for bytes that were changed: what is still read as a commit is valid, and written again as it is.
func TestNoOtherBytes(t *testing.T) {
	read := 0
	try := func(b []byte) {
		c, f := Decode(b)
		if f != (api.Fault{}) {
			if !same(c, api.Commit{}) || f.Err == api.OK || f.At < 0 || f.At > len(b) {
				t.Errorf("% x: %v, %v", b, c, f)
			}
			return
		}
		read++
		if again, e := Encode(c); !bytes.Equal(again, b) || e != api.OK {
			t.Errorf("% x is written again as % x, %v", b, again, e)
		}
	}
	for _, c := range []api.Commit{of(5), of(5, 0, 7, 3, 9), of(highest, 0, -1, 1, -1, 63, -1), some(5, 30)} {
		b := bytesOf(c)
		for at := range b {
			for x := range 256 {
				spoiled := slices.Clone(b)
				spoiled[at] = byte(x)
				try(spoiled)
				try(slices.Insert(slices.Clone(b), at, byte(x)))
			}
			try(slices.Delete(slices.Clone(b), at, at+1))
			try(b[at:])
		}
	}
	if read < 30000 {
		t.Error("too few are read:", read)
	}
}

// TestDifferent holds that commits that differ have different bytes.
func TestDifferent(t *testing.T) {
	whose := map[string]api.Commit{}
	for _, c := range commits() {
		b, _ := Encode(c)
		if o, is := whose[string(b)]; is && !same(c, o) {
			t.Errorf("%v has the bytes of %v", c, o)
		}
		whose[string(b)] = c
	}
}

// TestBytesAreNew holds that neither bytes nor a commit share memory with an argument, or with what an earlier call told, and that nothing behind bytes is looked at.
func TestBytesAreNew(t *testing.T) {
	c := of(5, 0, 7, 3, 9)
	first, _ := Encode(c)
	second, _ := Encode(c)
	clear(first[:cap(first)])
	if !bytes.Equal(second, bytesOf(c)) {
		t.Errorf("% x", second)
	}
	one, _ := Decode(second)
	two, _ := Decode(second)
	clear(second[:cap(second)])
	spoil(one)
	if !same(two, c) {
		t.Error(two)
	}
	b := append(bytesOf(c), 1, 2, 3)
	was := slices.Clone(b)
	if got, f := Decode(b[:len(b)-3]); !same(got, c) || f != (api.Fault{}) {
		t.Error(got, f)
	}
	wantFault(t, b[:len(b)-4], api.ErrShort, len(b)-11)
	if !bytes.Equal(b, was) {
		t.Errorf("% x", b)
	}
}
