package block

import (
	"bytes"
	"slices"
	"strings"
	"testing"

	"landfall/api"
)

// wantFault makes sure that bytes are no block, and why; and that they are as they were.
func wantFault(t *testing.T, b []byte, e api.Errno, at int) {
	t.Helper()
	was := slices.Clone(b)
	if x, f := Decode(b); f != (api.Fault{Err: e, At: at}) || !equal(x, api.Block{}) {
		t.Errorf("% x: %v, %v, not %v at %d", b, x, f, e, at)
	}
	if !bytes.Equal(b, was) {
		t.Errorf("% x was changed to % x", was, b)
	}
}

// TestBytesExamples are the chapter's.
func TestBytesExamples(t *testing.T) {
	m, e := Make(plain(), two())
	b, f := Encode(m)
	if e != api.OK || f != api.OK {
		t.Fatal(e, f)
	}
	if x, f := Decode(b); !equal(x, m) || f != (api.Fault{}) {
		t.Error(x, f)
	}
	wantFault(t, nil, api.ErrShort, 0)
	wantFault(t, b[:len(b)-1], api.ErrShort, begins(m)[2])
}

// TestEncodeForm writes out one block's bytes.
func TestEncodeForm(t *testing.T) {
	m := api.Block{H: plain(), Commit: api.Commit{Height: 258, Votes: []api.Vote{{At: 1, Sig: 0x0102030405060708}}}, Vals: two()}
	want := "\x01\x87" + "\x01\x01a\x01\x03\x01\x04" + strings.Repeat("\x00", 128)
	want += "\x01\x2f" + "\x02\x01\x02" + strings.Repeat("\x00", 32) + "\x01\x01" + "\x01\x01\x01\x02\x03\x04\x05\x06\x07\x08"
	want += "\x01\x0e" + "\x01\x02" + "\x00\x00\x00\x01\x01\x05" + "\x00\x00\x00\x02\x01\x07"
	if b, e := Encode(m); string(b) != want || e != api.OK {
		t.Errorf("% x, %v", b, e)
	}
}

// TestEncode holds the bytes, which are written here by other means, and what is read of them; blocks that do not fit together have bytes, too.
func TestEncode(t *testing.T) {
	for _, m := range slices.Concat(links(), unfit()) {
		is, want := roomy(m), bytesOf(m)
		if b, e := Encode(is); !bytes.Equal(b, want) || e != api.OK {
			t.Errorf("%v: % x, %v", m, b, e)
		}
		wantSame(t, is, roomy(m))
		x, f := Decode(want)
		if !equal(x, m) || f != (api.Fault{}) || !Same(x, m) {
			t.Error(m, x, f)
		}
		if Linked(x) != Linked(m) {
			t.Error(x, Linked(x))
		}
		if !bytes.Equal(want, bytesOf(m)) {
			t.Errorf("%v: its bytes were changed to % x", m, want)
		}
	}
}

// TestEncodeOrder puts together each choice of what is wrong with header, validators and commit: they count in this order, though they are not written in it.
func TestEncodeOrder(t *testing.T) {
	for _, h := range wrongHeaders() {
		for _, l := range wrongVals() {
			for _, c := range wrongCommits() {
				m := chapter()
				h.make(&m)
				l.make(&m)
				c.make(&m)
				want := firstOf(h.want, l.want, c.want)
				if b, e := Encode(m); e != want || (len(b) == 0) != (e != api.OK) {
					t.Errorf("%v: % x, %v, not %v", m, b, e, want)
				}
			}
		}
	}
	if b, e := Encode(api.Block{}); len(b) != 0 || e != api.ErrForm {
		t.Error(b, e)
	}
}

// TestCutOff reads bytes that are cut off: ErrShort where the item begins that is not there.
func TestCutOff(t *testing.T) {
	for _, m := range append(links(), unfit()...) {
		b := bytesOf(m)
		for n := range b {
			at := 0
			for _, begin := range begins(m) {
				if begin <= n {
					at = begin
				}
			}
			wantFault(t, b[:n], api.ErrShort, at)
		}
	}
}

// TestMoreBytes reads bytes behind a block: ErrLong where they begin.
func TestMoreBytes(t *testing.T) {
	for _, m := range links() {
		b := bytesOf(m)
		for _, more := range [][]byte{{0}, {1}, {9}, {255}, b, make([]byte, mostMsg+1)} {
			wantFault(t, slices.Concat(b, more), api.ErrLong, len(b))
		}
	}
}

// with makes the bytes of a block of which one item is another one.
func with(m api.Block, i int, item []byte) []byte {
	p := parts(m)
	p[i] = item
	return slices.Concat(p[:]...)
}

// wrongLengths are bytes that begin with no item, whatever follows, and why.
func wrongLengths() map[string]api.Errno {
	return map[string]api.Errno{
		"\x09":                                 api.ErrForm,
		"\xff":                                 api.ErrForm,
		"\x01\x00":                             api.ErrForm,
		"\x02\x00\x05":                         api.ErrForm,
		"\x02\x00\x87":                         api.ErrForm,
		"\x03\x00\x01\x00":                     api.ErrForm,
		"\x08\x80\x00\x00\x00\x00\x00\x00\x00": api.ErrForm,
		"\x08\xff\xff\xff\xff\xff\xff\xff\xff": api.ErrForm,
		"\x03\x01\x00\x01":                     api.ErrLong,
		"\x03\xff\xff\xff":                     api.ErrLong,
		"\x04\x01\x00\x00\x00":                 api.ErrLong,
		"\x08\x7f\xff\xff\xff\xff\xff\xff\xff": api.ErrLong,
	}
}

// TestLengths gives each item a length that has not its one form, or is more than an item may have; with the item behind it, and without.
func TestLengths(t *testing.T) {
	for _, m := range []api.Block{chapter(), links()[4], unfit()[0]} {
		for i, at := range begins(m) {
			p := parts(m)
			for lead, e := range wrongLengths() {
				wantFault(t, with(m, i, []byte(lead)), e, at)
				wantFault(t, with(m, i, slices.Concat([]byte(lead), p[i])), e, at)
				wantFault(t, slices.Concat(bytesOf(m)[:at], []byte(lead)), e, at)
			}
			for _, lead := range []string{"\x01", "\x02\x01", "\x03\x01\x00", "\x03\x01\x00\x00", "\x02\xff\xff", "\x08\x7f\xff\xff\xff\xff\xff\xff"} {
				wantFault(t, slices.Concat(bytesOf(m)[:at], []byte(lead)), api.ErrShort, at)
			}
		}
	}
}

// TestLongItems gives items of as many bytes as they may have, which are of another form, and of more.
func TestLongItems(t *testing.T) {
	m := chapter()
	for i, at := range begins(m) {
		item := parts(m)[i][2:]
		for _, n := range []int{mostMsg - 1, mostMsg, mostMsg + 1, mostMsg + 2, 2 * mostMsg} {
			e := api.ErrForm
			if n > mostMsg {
				e = api.ErrLong
			}
			long := slices.Concat(item, make([]byte, n-len(item)))
			wantFault(t, with(m, i, part(long)), e, at)
			// Of an item that is cut off its length counts, if it is more than it may be; its bytes do not.
			cut := part(long)
			if e == api.ErrForm {
				e = api.ErrShort
			}
			wantFault(t, slices.Concat(bytesOf(m)[:at], cut[:len(cut)-1]), e, at)
		}
	}
}

// wrongItems are bytes that are no header, no commit and no set: those of what is not valid, empty ones, cut ones, longer ones, those of other items.
func wrongItems(m api.Block) [3][][]byte {
	var all [3][][]byte
	p := parts(m)
	raw := [3][]byte{headerBytes(m.H), commitBytes(m.Commit), valsBytes(m.Vals)}
	for i := range all {
		for n := range raw[i] {
			all[i] = append(all[i], raw[i][:n])
		}
		all[i] = append(all[i], append(slices.Clone(raw[i]), 0), p[i], slices.Concat(raw[i], raw[i]), make([]byte, len(raw[i])))
		for k := range raw {
			if k != i {
				all[i] = append(all[i], raw[k])
			}
		}
	}
	for i, changes := range [3][]change{wrongHeaders(), wrongCommits(), wrongVals()} {
		for _, c := range changes[1:] {
			b := chapter()
			c.make(&b)
			if b.H.Time < 0 || len(b.Commit.Votes) > 0 && b.Commit.Votes[0].At < 0 {
				continue
			}
			all[i] = append(all[i], [3][]byte{headerBytes(b.H), commitBytes(b.Commit), valsBytes(b.Vals)}[i])
		}
	}
	return all
}

// TestWrongItems gives bytes that are no header, no commit, no set: ErrForm where the item begins, whatever is wrong behind it.
func TestWrongItems(t *testing.T) {
	for _, m := range []api.Block{chapter(), linked(greatest(), some(2), votes(0, 1))} {
		for i, wrong := range wrongItems(m) {
			at := begins(m)[i]
			for _, w := range wrong {
				b := with(m, i, part(w))
				wantFault(t, b, api.ErrForm, at)
				wantFault(t, append(slices.Clone(b), 0), api.ErrForm, at)
				wantFault(t, append(b[:at:at], part(w)...), api.ErrForm, at)
				wantFault(t, slices.Concat(b[:at], part(w), []byte{1}), api.ErrForm, at)
				wantFault(t, slices.Concat(b[:at], part(w), []byte{3, 1, 0, 1}), api.ErrForm, at)
				// Cut off, it is not looked at.
				cut := append(b[:at:at], part(w)...)
				wantFault(t, cut[:len(cut)-1], api.ErrShort, at)
			}
		}
	}
}

// TestFirstFault gives faults in two items: the first one is told. An h, a c and a v stand for items that are right.
func TestFirstFault(t *testing.T) {
	p, at := parts(chapter()), begins(chapter())
	long := "\x03\x01\x00\x01"
	for _, r := range []struct {
		b   string
		err api.Errno
		at  int
	}{
		{"", api.ErrShort, 0},
		{"h", api.ErrShort, at[1]},
		{"hc", api.ErrShort, at[2]},
		{"hcv\x00", api.ErrLong, at[2] + len(p[2])},
		{"hvc", api.ErrForm, at[1]},
		{"chv", api.ErrForm, 0},
		{"hhcv", api.ErrForm, at[1]},
		{"hccv", api.ErrForm, at[2]},
		{"h\x00v", api.ErrForm, at[1]},
		{"\x00", api.ErrForm, 0},
		{"\x00\x00\x00", api.ErrForm, 0},
		{"h\x00\x00", api.ErrForm, at[1]},
		{"hc\x00\x00", api.ErrForm, at[2]},
		{"\x00" + long, api.ErrForm, 0},
		{long + "\x00", api.ErrLong, 0},
		{"\x01\x00" + long, api.ErrForm, 0},
		{"h\x00" + long, api.ErrForm, at[1]},
		{"h" + long + "\x00", api.ErrLong, at[1]},
		{"h\x00\x01", api.ErrForm, at[1]},
		{"h\x00\x09", api.ErrForm, at[1]},
		{"h\x09v", api.ErrForm, at[1]},
		{"h\x02\x01v\x00", api.ErrShort, at[1]},
		{"hc" + long + "\x00", api.ErrLong, at[2]},
		{"hc\x01\x02\x00\x00\x00", api.ErrForm, at[2]},
		{"hc\x01\x02\x00", api.ErrShort, at[2]},
	} {
		b := strings.NewReplacer("h", string(p[0]), "c", string(p[1]), "v", string(p[2])).Replace(r.b)
		wantFault(t, []byte(b), r.err, r.at)
	}
}

// TestNoOtherBytes holds P9.5 for bytes that were changed: what is still read as a block is written again as it is.
func TestNoOtherBytes(t *testing.T) {
	read := 0
	try := func(b []byte) {
		x, f := Decode(b)
		if f != (api.Fault{}) {
			if f.Err == api.OK || f.At < 0 || f.At > len(b) || !equal(x, api.Block{}) {
				t.Errorf("% x: %v, %v", b, x, f)
			}
			return
		}
		read++
		if again, e := Encode(x); !bytes.Equal(again, b) || e != api.OK {
			t.Errorf("% x is written again as % x, %v", b, again, e)
		}
	}
	for _, m := range []api.Block{chapter(), linked(greatest(), some(2), votes(1)), linked(plain(), two(), votes(0, 1))} {
		b := bytesOf(m)
		for at := range b {
			for x := range 256 {
				spoiled := slices.Clone(b)
				spoiled[at] = byte(x)
				try(spoiled)
				if x < 16 {
					try(slices.Insert(slices.Clone(b), at, byte(x)))
				}
			}
			try(slices.Delete(slices.Clone(b), at, at+1))
			try(b[at:])
		}
	}
	if read < 50000 {
		t.Error("too few are read:", read)
	}
}

// TestDifferentBytes holds that blocks that differ have different bytes.
func TestDifferentBytes(t *testing.T) {
	whose := map[string]int{}
	for i, m := range neighbours() {
		b, e := Encode(m)
		if e != api.OK {
			continue
		}
		if k, is := whose[string(b)]; is {
			t.Error(i, k)
		}
		whose[string(b)] = i
	}
	if len(whose) < 300 {
		t.Error("too few are written:", len(whose))
	}
}

// TestBytesAreNew holds that neither bytes nor a block share memory with an argument, or with what an earlier call told, and that nothing behind bytes is looked at.
func TestBytesAreNew(t *testing.T) {
	m := linked(greatest(), some(3), votes(0, 2))
	first, _ := Encode(m)
	second, _ := Encode(m)
	clear(first[:cap(first)])
	if !bytes.Equal(second, bytesOf(m)) {
		t.Errorf("% x", second)
	}
	one, _ := Decode(second)
	other, f := Decode(second)
	clear(second[:cap(second)])
	spoil(one)
	if !equal(other, m) || f != (api.Fault{}) {
		t.Error(other, f)
	}
	b := append(bytesOf(m), bytesOf(m)...)
	was, n := slices.Clone(b), len(b)/2
	if x, f := Decode(b[:n]); !equal(x, m) || f != (api.Fault{}) {
		t.Error(x, f)
	}
	for _, at := range begins(m) {
		wantFault(t, b[:at], api.ErrShort, at)
	}
	wantFault(t, b[:n-1], api.ErrShort, begins(m)[2])
	if !bytes.Equal(b, was) {
		t.Errorf("% x was changed to % x", was, b)
	}
}
