package header

import (
	"bytes"
	"slices"
	"strings"
	"testing"

	"landfall/api"
	"landfall/blake"
)

// wantFault makes sure that bytes are no header, and why; and that they are as they were.
func wantFault(t *testing.T, b []byte, e api.Errno, at int) {
	t.Helper()
	was := slices.Clone(b)
	if h, f := Decode(b); f != (api.Fault{Err: e, At: at}) || h != (api.Header{}) {
		t.Errorf("% x: %v, %v, not %v at %d", b, h, f, e, at)
	}
	if !bytes.Equal(b, was) {
		t.Errorf("% x was changed to % x", was, b)
	}
}

// TestEncodeExample is the chapter's.
func TestEncodeExample(t *testing.T) {
	b, e := Encode(one())
	if want := "\x01\x01a\x01\x01\x01\x02" + strings.Repeat("\x00", 128); string(b) != want || e != api.OK {
		t.Errorf("% x, %v", b, e)
	}
}

// TestHashExamples has texts that were worked out by another program.
func TestHashExamples(t *testing.T) {
	for _, r := range []struct {
		h    api.Header
		want string
	}{
		{one(), "aba2b07bc7a576138e2d0eb0c1d419e17118c33ee2ac8c2b58ffbf2686bab433"},
		{full(), "05ecdff5431fd9bcbcfdc233257c9f744b8df6371ca3980a6bcb34ded359a952"},
		{api.Header{Chain: strings.Repeat("z", 32), Height: highest, Time: latest}, "bba95f0743fa02d5928e1e41467c249b04e1219b2e0a4e1394d41f11ecd5a366"},
	} {
		if h, e := Hash(r.h); blake.Text(h) != r.want || e != api.OK {
			t.Error(r.h, blake.Text(h), e)
		}
	}
}

// TestEncode holds the bytes, which are written here by other means; what is read of them; and their hash.
func TestEncode(t *testing.T) {
	for _, h := range valid() {
		want := bytesOf(h)
		if b, e := Encode(h); !bytes.Equal(b, want) || e != api.OK {
			t.Errorf("%v: % x, %v", h, b, e)
		}
		if got, e := Hash(h); got != blake.Sum(slices.Concat([]byte("H"), want)) || e != api.OK {
			t.Error(h, got, e)
		}
		if got, f := Decode(want); got != h || f != (api.Fault{}) {
			t.Error(h, got, f)
		}
		if !bytes.Equal(want, bytesOf(h)) {
			t.Errorf("%v: its bytes were changed to % x", h, want)
		}
	}
}

// TestNoBytes holds that what is not valid has neither bytes nor a hash, but the error that Check tells.
func TestNoBytes(t *testing.T) {
	for _, h := range edges() {
		want := wantCheck(h)
		if b, e := Encode(h); e != want || (len(b) == 0) != (e != api.OK) {
			t.Errorf("%v: % x, %v, not %v", h, b, e, want)
		}
		if hash, e := Hash(h); e != want || (hash == api.Hash{}) != (e != api.OK) {
			t.Error(h, hash, e, want)
		}
	}
}

// TestCutOff reads bytes that are cut off: ErrShort where the element begins that is not there.
func TestCutOff(t *testing.T) {
	for _, h := range []api.Header{one(), full(), {Chain: letters[5:], Height: highest, Time: latest}, {Chain: "a", Height: 1}} {
		b := bytesOf(h)
		for n := range b {
			at := 0
			for _, e := range elements(h) {
				if e.at <= n {
					at = e.at
				}
			}
			wantFault(t, b[:n], api.ErrShort, at)
		}
	}
}

// TestMoreBytes reads bytes behind a header: ErrLong where they begin.
func TestMoreBytes(t *testing.T) {
	for _, h := range []api.Header{one(), full(), {Chain: letters[5:], Height: highest, Time: latest}} {
		b := bytesOf(h)
		for _, more := range [][]byte{{0}, {1}, {255}, b} {
			wantFault(t, slices.Concat(b, more), api.ErrLong, len(b))
		}
	}
}

// TestNotValid reads the bytes of what is not valid: the error of Check, at 0, but only if the bytes are read to the end.
func TestNotValid(t *testing.T) {
	for _, h := range edges() {
		want, b := wantCheck(h), bytesOf(h)
		switch {
		case want == api.OK || h.Height < 0 || h.Time < 0:
			continue
		case len(h.Chain) > 32:
			wantFault(t, b, api.ErrLong, 0)
			continue
		}
		wantFault(t, b, want, 0)
		wantFault(t, append(slices.Clone(b), 0), api.ErrLong, len(b))
		wantFault(t, b[:len(b)-1], api.ErrShort, len(b)-32)
	}
}

// TestFaults are those of each element, and which one is told if two apply; four hashes stand behind what is given.
func TestFaults(t *testing.T) {
	hashes := strings.Repeat("\x07", 128)
	most := strings.Repeat("a", 32)
	for _, r := range []struct {
		b   string
		err api.Errno
		at  int
	}{
		// The examples of the chapter, and names that are none.
		{"\x01\x01a\x00\x01\x02", api.ErrRange, 0},
		{"\x00\x01\x01\x01\x02", api.ErrForm, 0},
		{"\x01\x01A\x01\x01\x01\x02", api.ErrForm, 0},
		{"\x01\x01A\x00\x01\x02", api.ErrForm, 0},
		{"\x01\x02a\xff\x01\x01\x01\x02", api.ErrForm, 0},
		// The chain's forms, and lengths.
		{"\x09\x01\x01\x01\x02", api.ErrForm, 0},
		{"\x01\x00\x01\x01\x01\x02", api.ErrForm, 0},
		{"\x02\x00\x01a\x01\x01\x01\x02", api.ErrForm, 0},
		{"\x01\x21" + most + "a\x01\x01\x01\x02", api.ErrLong, 0},
		{"\x01\x21", api.ErrLong, 0},
		{"\x01\xff\x01\x01\x01\x02", api.ErrLong, 0},
		{"\x02\x01\x00" + most, api.ErrLong, 0},
		{"\x08\x7f\xff\xff\xff\xff\xff\xff\xff", api.ErrLong, 0},
		{"\x08\x80\x00\x00\x00\x00\x00\x00\x00", api.ErrForm, 0},
		// Heights and times that have not their one form, at the place where they begin; the first of two.
		{"\x01\x01a\x09\x01\x02", api.ErrForm, 3},
		{"\x01\x01a\x01\x00\x01\x02", api.ErrForm, 3},
		{"\x01\x01a\x02\x00\x01\x01\x02", api.ErrForm, 3},
		{"\x01\x01a\x08\xff\xff\xff\xff\xff\xff\xff\xff\x01\x02", api.ErrForm, 3},
		{"\x01\x01a\x08\x80\x00\x00\x00\x00\x00\x00\x00\x01\x02", api.ErrForm, 3},
		{"\x01\x01a\x01\x01\x09", api.ErrForm, 5},
		{"\x01\x01a\x01\x01\x01\x00", api.ErrForm, 5},
		{"\x01\x01a\x01\x01\x02\x00\x01", api.ErrForm, 5},
		{"\x01\x01a\x02\x01\x00\x08\xff\xff\xff\xff\xff\xff\xff\xff", api.ErrForm, 6},
		{"\x01\x01a\x01\x00\x01\x00", api.ErrForm, 3},
		{"\x01\x21\x01\x00", api.ErrLong, 0},
		// A fault of the bytes is told ahead of what Check would tell.
		{"\x00\x01\x00\x01\x02", api.ErrForm, 1},
		{"\x01\x01A\x00\x01\x00", api.ErrForm, 4},
		{"\x01\x01A\x00\x00\x00", api.ErrLong, 133},
		{"\x01\x01a\x00\x01", api.ErrShort, 102},
		// Heights and times that are numbers, but no header's.
		{"\x01\x01a\x04\x40\x00\x00\x01\x01\x02", api.ErrRange, 0},
		{"\x01\x01a\x08\x7f\xff\xff\xff\xff\xff\xff\xff\x01\x02", api.ErrRange, 0},
		{"\x01\x01a\x01\x01\x06\x01\x00\x00\x00\x00\x01", api.ErrRange, 0},
		{"\x01\x01a\x01\x01\x08\x7f\xff\xff\xff\xff\xff\xff\xff", api.ErrRange, 0},
		{"\x01\x01a\x00\x06\x01\x00\x00\x00\x00\x01", api.ErrRange, 0},
	} {
		wantFault(t, []byte(r.b+hashes), r.err, r.at)
	}
	wantFault(t, nil, api.ErrShort, 0)
	wantFault(t, []byte{0}, api.ErrShort, 1)
	for _, s := range []string{"\x01\x20" + most + "\x01\x01\x00", "\x01\x01a\x04\x40\x00\x00\x00\x06\x01\x00\x00\x00\x00\x00"} {
		if h, f := Decode([]byte(s + hashes)); f != (api.Fault{}) || wantCheck(h) != api.OK {
			t.Errorf("%q: %v, %v", s, h, f)
		}
	}
}

// others are headers each of which differs from a header in one thing: a field, or one byte of one hash.
func others(h api.Header) []api.Header {
	var l []api.Header
	but := func(change func(o *api.Header)) {
		o := h
		change(&o)
		l = append(l, o)
	}
	but(func(o *api.Header) { o.Chain += "1" })
	but(func(o *api.Header) { o.Chain = "1" + o.Chain })
	but(func(o *api.Header) { o.Chain = "z" + o.Chain[1:] })
	but(func(o *api.Header) { o.Height++ })
	but(func(o *api.Header) { o.Height += 255 })
	but(func(o *api.Header) { o.Time++ })
	but(func(o *api.Header) { o.Time += 256 })
	but(func(o *api.Header) { o.Height, o.Time = o.Time, o.Height })
	for i := range 32 {
		for _, bit := range []byte{1, 128} {
			but(func(o *api.Header) { o.Prev[i] ^= bit })
			but(func(o *api.Header) { o.Vals[i] ^= bit })
			but(func(o *api.Header) { o.Next[i] ^= bit })
			but(func(o *api.Header) { o.App[i] ^= bit })
		}
	}
	return l
}

// TestDifferent holds P6.3: headers that differ have different bytes, and different hashes.
func TestDifferent(t *testing.T) {
	whose, hashed := map[string]api.Header{}, map[api.Hash]api.Header{}
	for _, h := range append(append(valid(), others(one())...), others(full())...) {
		b, e := Encode(h)
		hash, err := Hash(h)
		if e != api.OK || err != api.OK {
			t.Fatal(h, e, err)
		}
		if o, is := whose[string(b)]; is && o != h {
			t.Errorf("%v has the bytes of %v", h, o)
		}
		if o, is := hashed[hash]; is && o != h {
			t.Errorf("%v has the hash of %v", h, o)
		}
		whose[string(b)], hashed[hash] = h, h
	}
}

// TestNoOtherBytes holds P6.3 for bytes that were changed: what is still read as a header is valid, and written again as it is.
func TestNoOtherBytes(t *testing.T) {
	read := 0
	try := func(b []byte) {
		h, f := Decode(b)
		if f != (api.Fault{}) {
			if h != (api.Header{}) || f.Err == api.OK || f.At < 0 || f.At > len(b) {
				t.Errorf("% x: %v, %v", b, h, f)
			}
			return
		}
		read++
		if again, e := Encode(h); !bytes.Equal(again, b) || e != api.OK {
			t.Errorf("% x is written again as % x, %v", b, again, e)
		}
	}
	for _, h := range []api.Header{one(), full(), {Chain: letters[5:], Height: highest, Time: latest}} {
		b := bytesOf(h)
		for at := range b {
			for x := range 256 {
				spoiled := slices.Clone(b)
				spoiled[at] = byte(x)
				try(spoiled)
				try(slices.Insert(slices.Clone(b), at, byte(x)))
			}
			try(slices.Delete(slices.Clone(b), at, at+1))
			try(b[at:])
		}
	}
	if read < 50000 {
		t.Error("too few are read:", read)
	}
}

// TestBytesAreNew holds that neither bytes nor a header share memory with an argument, or with what an earlier call told, and that nothing behind bytes is looked at.
func TestBytesAreNew(t *testing.T) {
	first, _ := Encode(full())
	second, _ := Encode(full())
	clear(first[:cap(first)])
	if !bytes.Equal(second, bytesOf(full())) {
		t.Errorf("% x", second)
	}
	h, f := Decode(second)
	clear(second[:cap(second)])
	if h != full() || f != (api.Fault{}) {
		t.Error(h, f)
	}
	b := append(bytesOf(full()), 1, 2, 3)
	was := slices.Clone(b)
	if h, f := Decode(b[:len(b)-3]); h != full() || f != (api.Fault{}) {
		t.Error(h, f)
	}
	wantFault(t, b[:len(b)-4], api.ErrShort, len(b)-35)
	if !bytes.Equal(b, was) {
		t.Errorf("% x", b)
	}
}
