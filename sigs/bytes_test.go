package sigs

import (
	"bytes"
	"slices"
	"strings"
	"testing"

	"landfall/api"
)

// tables are lists of signatures, ascending, of each length at the edges.
func tables() [][]api.Sig {
	l := []api.Sig{{}, sig(1, 1, 1), sig(1, 1, 2), sig(1, 2, 0), sig(1, 200, 0), sig(200, 1, 1<<63), sig(255, 255, 1<<64-1)}
	all := [][]api.Sig{nil}
	for i := range l {
		all = append(all, l[i:i+1], l[i:], l[:i])
	}
	for _, n := range []int{255, 256, 257, mostSigs - 1, mostSigs} {
		all = append(all, ordered(many(n)))
	}
	return append(all, ordered(neighbours()))
}

// TestForm writes out one table's bytes.
func TestForm(t *testing.T) {
	h := api.Hash{0: 9, 31: 8}
	x := table(t, 9, []api.Sig{{Key: api.Key{1, 2, 3, 4}, Hash: h, Sig: 0x0102030405060708}, {Key: api.Key{1, 2, 3, 3}, Hash: h, Sig: 1}})
	hash := "\x09" + strings.Repeat("\x00", 30) + "\x08"
	want := "\x01\x02" + "\x01\x02\x03\x03" + hash + "\x00\x00\x00\x00\x00\x00\x00\x01" + "\x01\x02\x03\x04" + hash + "\x01\x02\x03\x04\x05\x06\x07\x08"
	if b, e := x.Encode(); string(b) != want || e != api.OK {
		t.Errorf("% x, %v", b, e)
	}
}

// TestReadBack holds P8.3: what was written is read as it was, with room for 4,096, and the bytes are left alone.
func TestReadBack(t *testing.T) {
	for _, l := range tables() {
		for _, most := range []int{len(l), mostSigs} {
			b, e := table(t, most, l).Encode()
			if want := bytesOf(l); !bytes.Equal(b, want) || e != api.OK {
				t.Errorf("%d: % x, %v", len(l), b, e)
			}
			was := slices.Clone(b)
			x, f := Decode(b)
			if f != (api.Fault{}) {
				t.Fatal(len(l), f)
			}
			wantTable(t, x, l)
			if !bytes.Equal(b, was) {
				t.Errorf("% x was changed to % x", was, b)
			}
			clear(b[:cap(b)])
			wantTable(t, x, l)
		}
	}
}

// TestAddToDecoded adds to tables that were read, up to 4,096 signatures.
func TestAddToDecoded(t *testing.T) {
	all := ordered(many(mostSigs))
	more := api.Sig{Key: api.Key{255, 255, 255, 255}, Sig: 1}
	x, f := Decode(bytesOf(all))
	if f != (api.Fault{}) {
		t.Fatal(f)
	}
	if e := x.Add(more); e != api.ErrFull {
		t.Error(e)
	}
	if e := x.Add(all[77]); e != api.ErrDouble {
		t.Error(e)
	}
	wantTable(t, x, all)
	for _, n := range []int{0, 1, 2, mostSigs - 1} {
		x, f := Decode(bytesOf(all[:n]))
		if f != (api.Fault{}) {
			t.Fatal(f)
		}
		for _, s := range all[:n] {
			if e := x.Add(s); e != api.ErrDouble {
				t.Error(n, s, e)
			}
		}
		for _, s := range all[n:] {
			if e := x.Add(s); e != api.OK {
				t.Error(n, s, e)
			}
		}
		if e := x.Add(more); e != api.ErrFull {
			t.Error(n, e)
		}
		wantTable(t, x, all)
	}
}

// TestBytesExamples are the chapter's.
func TestBytesExamples(t *testing.T) {
	wantFault(t, []byte{1, 2}, api.ErrShort, 2)
	wantFault(t, bytesOf([]api.Sig{sig(1, 0, 7), sig(1, 0, 5)}), api.ErrOrder, 46)
	x, f := Decode([]byte{0})
	if f != (api.Fault{}) {
		t.Fatal(f)
	}
	wantTable(t, x, nil)
}

// shortAt tells where a part begins that is cut off, if n bytes of some signatures are left: the number's, or a key, a hash or a word.
func shortAt(number, n int) int {
	if n < number {
		return 0
	}
	left := (n - number) % formLen
	switch {
	case left < 4:
		return n - left
	case left < 36:
		return n - left + 4
	}
	return n - left + 36
}

// TestCutOff reads each beginning of bytes.
func TestCutOff(t *testing.T) {
	for _, l := range [][]api.Sig{nil, {{}}, {sig(1, 1, 1), sig(1, 1, 2), sig(1, 200, 0), sig(200, 1, 0)}} {
		b := bytesOf(l)
		number := len(numBytes(len(l)))
		for n := range len(b) {
			wantFault(t, b[:n], api.ErrShort, shortAt(number, n))
		}
	}
	b := bytesOf(ordered(many(300)))
	for n := 3; n < len(b); n += 13 {
		wantFault(t, b[:n], api.ErrShort, shortAt(3, n))
	}
}

// TestMoreBytes reads bytes behind a table: ErrLong where they begin.
func TestMoreBytes(t *testing.T) {
	for _, l := range tables() {
		b := bytesOf(l)
		for _, more := range [][]byte{{0}, {1}, {255}, make([]byte, formLen), []byte(form(sig(255, 255, 9)))} {
			wantFault(t, slices.Concat(b, more), api.ErrLong, len(b))
		}
	}
}

// TestNumbers gives some numbers of signatures, with as many as there are, with one less, and with none.
func TestNumbers(t *testing.T) {
	all := ordered(many(mostSigs + 4))
	for _, n := range []int{0, 1, 2, 3, 254, 255, 256, 257, 1000, mostSigs - 1, mostSigs} {
		b, number := bytesOf(all[:n]), len(numBytes(n))
		if x, f := Decode(b); f != (api.Fault{}) || x.Len() != n {
			t.Error(n, f)
		}
		if n > 0 {
			wantFault(t, b[:number], api.ErrShort, number)
			wantFault(t, b[:len(b)-formLen], api.ErrShort, len(b)-formLen)
		}
	}
	for n := mostSigs + 1; n <= len(all); n++ {
		b := bytesOf(all[:n])
		wantFault(t, b, api.ErrLong, 0)
		wantFault(t, b[:3], api.ErrLong, 0)
		wantFault(t, b[:3+mostSigs*formLen], api.ErrLong, 0)
	}
}

// TestFaults are those of the number and of signatures, and which one is told if two apply; an s stands for a key and a hash, an S for greater ones.
func TestFaults(t *testing.T) {
	low, high := strings.Repeat("\x01", 36), strings.Repeat("\x02", 36)
	for _, r := range []struct {
		b   string
		err api.Errno
		at  int
	}{
		{"", api.ErrShort, 0},
		{"\x01", api.ErrShort, 0},
		{"\x02\x01", api.ErrShort, 0},
		// Numbers that have not their one form.
		{"\x09", api.ErrForm, 0},
		{"\xff", api.ErrForm, 0},
		{"\x01\x00", api.ErrForm, 0},
		{"\x02\x00\x01", api.ErrForm, 0},
		{"\x02\x00\x01s-------1", api.ErrForm, 0},
		{"\x08\x80\x00\x00\x00\x00\x00\x00\x00", api.ErrForm, 0},
		// More than 4,096, be there bytes behind them or not.
		{"\x02\x10\x01", api.ErrLong, 0},
		{"\x02\x10\x01S-------1s-------1", api.ErrLong, 0},
		{"\x02\xff\xff", api.ErrLong, 0},
		{"\x03\x01\x00\x00", api.ErrLong, 0},
		{"\x04\x80\x00\x00\x00", api.ErrLong, 0},
		{"\x08\x7f\xff\xff\xff\xff\xff\xff\xff", api.ErrLong, 0},
		{"\x02\x10\x00", api.ErrShort, 3},
		// A signature twice; one that falls; the first of two faults.
		{"\x01\x02s-------1s-------1", api.ErrOrder, 46},
		{"\x01\x02s-------2s-------1", api.ErrOrder, 46},
		{"\x01\x02S-------1s-------2", api.ErrOrder, 46},
		{"\x01\x03s-------1S-------1s-------2", api.ErrOrder, 90},
		{"\x01\x03s-------1S-------1S-------1", api.ErrOrder, 90},
		{"\x01\x03S-------2S-------1s-------1", api.ErrOrder, 46},
		// One that is not greater is told ahead of what is behind it: a cut, more bytes.
		{"\x01\x03s-------1s-------1", api.ErrOrder, 46},
		{"\x01\x03s-------1s-------1s---", api.ErrOrder, 46},
		{"\x01\x02s-------1s-------1\x00", api.ErrOrder, 46},
		// One that is cut off is not compared.
		{"\x01\x02S-------1s", api.ErrShort, 82},
		{"\x01\x02S-------1s-------", api.ErrShort, 82},
		{"\x01\x02s-------2s-------", api.ErrShort, 82},
		{"\x01\x02S-------1\x01\x01\x01\x01", api.ErrShort, 50},
		{"\x01\x02S-------1\x01\x01", api.ErrShort, 46},
		{"\x01\x02S-------1", api.ErrShort, 46},
		// More bytes than there are signatures; what follows is not read.
		{"\x00\x00", api.ErrLong, 1},
		{"\x00s-------1", api.ErrLong, 1},
		{"\x01\x01S-------1s-------1", api.ErrLong, 46},
		{"\x01\x02s-------1S-------1\x00", api.ErrLong, 90},
	} {
		b := strings.ReplaceAll(strings.ReplaceAll(r.b, "s", low), "S", high)
		wantFault(t, []byte(b), r.err, r.at)
	}
}

// TestFalling gives pairs of neighbours in both orders, with one that is less ahead of them: it is not the least one that counts, but the one before.
func TestFalling(t *testing.T) {
	all := neighbours()
	for _, a := range all {
		for _, b := range all {
			l := []api.Sig{{}, a, b}
			if form(a) >= form(b) {
				wantFault(t, bytesOf(l), api.ErrOrder, 90)
				continue
			}
			if x, f := Decode(bytesOf(l)); f != (api.Fault{}) || !slices.Equal(x.List(), l) {
				t.Error(l, f)
			}
		}
	}
}

// TestLastFalls gives 4,096 signatures, of which two anywhere change their places.
func TestLastFalls(t *testing.T) {
	all := ordered(many(mostSigs))
	for _, i := range []int{0, 1, 255, 256, mostSigs - 2} {
		l := slices.Clone(all)
		l[i], l[i+1] = l[i+1], l[i]
		wantFault(t, bytesOf(l), api.ErrOrder, 3+(i+1)*formLen)
		l[i] = l[i+1]
		wantFault(t, bytesOf(l), api.ErrOrder, 3+(i+1)*formLen)
	}
}

// TestNoOtherBytes changes bytes: what is still read is written again as it is.
func TestNoOtherBytes(t *testing.T) {
	c := some()
	read := 0
	for range 20000 {
		var l []api.Sig
		for range c.below(5) {
			l = append(l, sig(byte(c.below(3)), byte(c.below(3)), uint64(c.below(3))))
		}
		b := bytesOf(slices.Compact(ordered(l)))
		switch at := c.below(len(b)); c.below(4) {
		case 0:
			b[at] = byte(c.below(256))
		case 1:
			b[at]++
		case 2:
			b = slices.Delete(b, at, at+1)
		default:
			b = append(b, byte(c.below(256)))
		}
		x, f := Decode(b)
		if f != (api.Fault{}) {
			if x != nil || f.Err == api.OK {
				t.Error(x, f)
			}
			continue
		}
		read++
		if again, e := x.Encode(); !bytes.Equal(again, b) || e != api.OK {
			t.Errorf("% x is written again as % x, %v", b, again, e)
		}
		if !rises(x.List()) {
			t.Errorf("% x: %v", b, x.List())
		}
	}
	if read < 2000 {
		t.Error("too few are read:", read)
	}
}

// TestNotBehind holds that what is behind bytes is neither read nor written, and that two tables of the same bytes are apart.
func TestNotBehind(t *testing.T) {
	l := []api.Sig{sig(1, 1, 1), sig(2, 1, 1)}
	b := append(bytesOf(l), form(sig(3, 1, 1))...)
	was := slices.Clone(b)
	short := b[:len(b)-formLen]
	wantFault(t, short[:len(short)-1], api.ErrShort, 82)
	x, f := Decode(short)
	y, g := Decode(short)
	if f != (api.Fault{}) || g != (api.Fault{}) {
		t.Fatal(f, g)
	}
	if e := x.Add(sig(9, 9, 9)); e != api.OK {
		t.Error(e)
	}
	wantTable(t, x, append(slices.Clone(l), sig(9, 9, 9)))
	wantTable(t, y, l)
	if !bytes.Equal(b, was) {
		t.Errorf("% x was changed to % x", was, b)
	}
}
