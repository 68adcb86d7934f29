package wire

import (
	"bytes"
	"testing"

	"landfall/api"
)

// TestReadBack holds P4.4: what was written, in many an order, is read as it was, and then nothing is left.
func TestReadBack(t *testing.T) {
	all, v, c := kinds(), values(), some()
	for range 2000 {
		w, e := NewWriter(api.MaxWire)
		if e != api.OK {
			t.Fatal(e)
		}
		var wrote []kind
		var told []any
		for range c.below(12) {
			k := all[c.below(len(all))]
			x := v[k.name][c.below(len(v[k.name]))]
			if e := k.write(w, x); e != api.OK {
				t.Fatal(k.name, e)
			}
			wrote, told = append(wrote, k), append(told, x)
		}
		b, e := w.Done()
		if e != api.OK {
			t.Fatal(e)
		}
		r := NewReader(b)
		for i, k := range wrote {
			if got := k.read(r); got != told[i] {
				t.Errorf("%d: %s: %v, not %v", i, k.name, got, told[i])
			}
			b = b[len(k.form(told[i])):]
			if r.Rest() != len(b) {
				t.Errorf("%d: %s: %d bytes are left, not %d", i, k.name, r.Rest(), len(b))
			}
		}
		if f := r.End(); f != (api.Fault{}) {
			t.Error(f)
		}
	}
}

// readAs reads bytes as these things; whether they are that, and nothing more, and if so whether they are written again as they were.
func readAs(b []byte, as []kind) (are, same bool) {
	r := NewReader(b)
	var got []any
	for _, k := range as {
		got = append(got, k.read(r))
	}
	if r.End() != (api.Fault{}) {
		return false, false
	}
	w, _ := NewWriter(len(b))
	for i, k := range as {
		k.write(w, got[i])
	}
	again, e := w.Done()
	return true, e == api.OK && bytes.Equal(again, b)
}

// TestShortBytes holds P4.4 for all bytes of at most two, and many of three: what is read of them is written again as they were.
func TestShortBytes(t *testing.T) {
	all := [][]byte{nil}
	for a := range 256 {
		all = append(all, []byte{byte(a)})
		for b := range 256 {
			all = append(all, []byte{byte(a), byte(b)})
		}
	}
	for a := range 12 {
		for b := range 256 {
			for _, c := range []byte{0, 1, 2, 127, 128, 255} {
				all = append(all, []byte{byte(a), byte(b), c})
			}
		}
	}
	read := map[string]int{}
	for _, b := range all {
		for _, k := range kinds() {
			are, same := readAs(b, []kind{k})
			if are && !same {
				t.Errorf("%s: %x is not written again", k.name, b)
			}
			if are {
				read[k.name]++
			}
		}
	}
	// 00, 01 and a byte that is not 0, 02 and such a byte and one of six are numbers; 00, 01 01 and one of six are texts.
	for name, want := range map[string]int{"number": 1 + 255 + 255*6, "text": 1 + 6, "bytes": 1 + 6, "bool": 2, "hash": 0, "key": 0, "word": 0, "pace": 0} {
		if read[name] != want {
			t.Errorf("%s: %d of them are read, not %d", name, read[name], want)
		}
	}
}

// TestSpoiledBytes holds P4.4 for bytes that were changed: whatever is still read of them is written again as they are.
func TestSpoiledBytes(t *testing.T) {
	all, v, c := kinds(), values(), some()
	read := 0
	for range 20000 {
		var as []kind
		var b []byte
		for range 1 + c.below(4) {
			k := all[c.below(len(all))]
			as = append(as, k)
			b = append(b, k.form(v[k.name][c.below(min(5, len(v[k.name])))])...)
		}
		switch at := c.below(len(b)); c.below(4) {
		case 0:
			b[at] = byte(c.below(256))
		case 1:
			b[at]++
		case 2:
			b = append(b[:at], b[at+1:]...)
		default:
			b = append(b, byte(c.below(256)))
		}
		are, same := readAs(b, as)
		if are && !same {
			t.Errorf("%x is not written again", b)
		}
		if are {
			read++
		}
	}
	if read < 2000 {
		t.Error("too few are read:", read)
	}
}
