package wire

import (
	"bytes"
	"math"
	"slices"
	"testing"

	"landfall/api"
	"landfall/pace"
)

// wantEnd holds what is left of a reader, and its fault.
func wantEnd(t *testing.T, r *Reader, rest int, want api.Fault) {
	t.Helper()
	if n := r.Rest(); n != rest {
		t.Errorf("%d bytes are left, not %d", n, rest)
	}
	if f := r.End(); f != want {
		t.Errorf("%v, not %v", f, want)
	}
}

// wantNothing holds that each call of a reader tells zero, and that its end stays what it is.
func wantNothing(t *testing.T, r *Reader, want api.Fault) {
	t.Helper()
	for range 2 {
		if n := r.Num(); n != 0 {
			t.Error("Num:", n)
		}
		for _, most := range []int{math.MinInt, -1, 0, 1, math.MaxInt} {
			if s, b := r.Text(most), r.Bytes(most); s != "" || len(b) != 0 {
				t.Errorf("Text, Bytes: %q, %x", s, b)
			}
		}
		if h, k := r.Hash(), r.Key(); h != (api.Hash{}) || k != (api.Key{}) {
			t.Error("Hash, Key:", h, k)
		}
		if n, x, is := r.Word(), r.Pace(), r.Bool(); n != 0 || math.Float64bits(x) != 0 || is {
			t.Error("Word, Pace, Bool:", n, x, is)
		}
		wantEnd(t, r, 0, want)
	}
}

// TestReaderExamples are the chapter's.
func TestReaderExamples(t *testing.T) {
	for _, b := range [][]byte{{1, 0}, {9}} {
		r := NewReader(b)
		if n := r.Num(); n != 0 {
			t.Error(n)
		}
		wantEnd(t, r, 0, api.Fault{Err: api.ErrForm})
	}
	r := NewReader([]byte{2, 1})
	if n := r.Num(); n != 0 {
		t.Error(n)
	}
	wantEnd(t, r, 0, api.Fault{Err: api.ErrShort})

	r = NewReader([]byte{1, 5, 0})
	if n := r.Num(); n != 5 {
		t.Error(n)
	}
	wantEnd(t, r, 1, api.Fault{Err: api.ErrLong, At: 2})

	r = NewReader([]byte{1, 3, 'a'})
	if s := r.Text(2); s != "" {
		t.Error(s)
	}
	wantEnd(t, r, 0, api.Fault{Err: api.ErrLong})

	r = NewReader([]byte{1, 2, 2})
	if n, is := r.Num(), r.Bool(); n != 2 || is {
		t.Error(n, is)
	}
	wantEnd(t, r, 0, api.Fault{Err: api.ErrForm, At: 2})

	r = NewReader(bytes.Repeat([]byte{255}, 8))
	if x := r.Pace(); math.Float64bits(x) != 0 {
		t.Error(x)
	}
	wantEnd(t, r, 0, api.Fault{Err: api.ErrForm})
}

func TestNumbersAreRead(t *testing.T) {
	for _, n := range numbers() {
		form := numBytes(n)
		r := NewReader(append(form, 77))
		if got := r.Num(); got != n {
			t.Errorf("%x: %d, not %d", form, got, n)
		}
		wantEnd(t, r, 1, api.Fault{Err: api.ErrLong, At: len(form)})
	}
}

// wrongNumbers are bytes that begin with no number, and why; no text and no bytes begin with them either.
func wrongNumbers() []struct {
	b    []byte
	want api.Errno
} {
	l := []struct {
		b    []byte
		want api.Errno
	}{
		{nil, api.ErrShort},
		{[]byte{9}, api.ErrForm},
		{[]byte{9, 1, 2, 3, 4, 5, 6, 7, 8, 9}, api.ErrForm},
		{[]byte{10}, api.ErrForm},
		{[]byte{127}, api.ErrForm},
		{[]byte{128}, api.ErrForm},
		{append([]byte{255}, make([]byte, 300)...), api.ErrForm},
		{[]byte{2, 0}, api.ErrShort}, // that bytes are few counts before that the first one is 0
		{[]byte{2, 0, 1}, api.ErrForm},
		{[]byte{2, 0, 0}, api.ErrForm},
		{[]byte{8, 0, 255, 255, 255, 255, 255, 255, 255}, api.ErrForm},
		{[]byte{8, 0, 0, 0, 0, 0, 0, 0, 1}, api.ErrForm},
		{[]byte{8, 128, 0, 0, 0, 0, 0, 0, 0}, api.ErrForm},
		{[]byte{8, 255, 255, 255, 255, 255, 255, 255, 255}, api.ErrForm},
		{[]byte{8, 255, 255, 255, 255, 255, 255, 255}, api.ErrShort},
		{[]byte{8, 128, 0, 0, 0, 0, 0, 0, 1, 1, 1, 1, 1}, api.ErrForm},
	}
	for digits := 1; digits <= 8; digits++ {
		for have := range digits {
			l = append(l, struct {
				b    []byte
				want api.Errno
			}{append([]byte{byte(digits)}, bytes.Repeat([]byte{3}, have)...), api.ErrShort})
		}
		l = append(l, struct {
			b    []byte
			want api.Errno
		}{append([]byte{byte(digits), 0}, bytes.Repeat([]byte{3}, digits-1)...), api.ErrForm})
	}
	return l
}

// TestWrongNumbers reads them as numbers, texts and bytes, at 0 and behind another number; whatever follows is not read any more.
func TestWrongNumbers(t *testing.T) {
	reads := map[string]func(r *Reader) bool{
		"Num":      func(r *Reader) bool { return r.Num() == 0 },
		"Text":     func(r *Reader) bool { return r.Text(huge) == "" },
		"Text(0)":  func(r *Reader) bool { return r.Text(0) == "" },
		"Bytes":    func(r *Reader) bool { return len(r.Bytes(huge)) == 0 },
		"Bytes(0)": func(r *Reader) bool { return len(r.Bytes(0)) == 0 },
	}
	for _, w := range wrongNumbers() {
		for name, read := range reads {
			for _, before := range [][]byte{nil, {0}, {2, 1, 44}} {
				r := NewReader(slices.Concat(before, w.b))
				if before != nil {
					r.Num()
				}
				if !read(r) {
					t.Errorf("%s of %x tells something", name, w.b)
				}
				if f := r.End(); f != (api.Fault{Err: w.want, At: len(before)}) {
					t.Errorf("%s of %x behind %x: %v", name, w.b, before, f)
				}
				wantNothing(t, r, api.Fault{Err: w.want, At: len(before)})
			}
		}
	}
}

// TestMost reads texts and bytes that are as long as they may be, and longer.
func TestMost(t *testing.T) {
	for _, n := range []int{0, 1, 2, 255, 256, 1000, 65536} {
		form := append(withLen(letters(n)), 5)
		for _, most := range []int{math.MinInt, -1, 0, 1, n - 1, n, n + 1, math.MaxInt} {
			text, bytes := NewReader(form), NewReader(form)
			s, b := text.Text(most), string(bytes.Bytes(most))
			if n > max(most, 0) {
				if s != "" || b != "" {
					t.Errorf("%d bytes, at most %d: %q, %q", n, most, s, b)
				}
				wantNothing(t, text, api.Fault{Err: api.ErrLong})
				wantNothing(t, bytes, api.Fault{Err: api.ErrLong})
				continue
			}
			if s != letters(n) || b != letters(n) {
				t.Errorf("%d bytes, at most %d: %q, %q", n, most, s, b)
			}
			wantEnd(t, text, 1, api.Fault{Err: api.ErrLong, At: len(form) - 1})
			wantEnd(t, bytes, 1, api.Fault{Err: api.ErrLong, At: len(form) - 1})
		}
	}
}

// TestLongAndShort holds which error of a text's is told if two apply, and where.
func TestLongAndShort(t *testing.T) {
	for _, c := range []struct {
		b    []byte
		most int
		want api.Errno
	}{
		{[]byte{1, 3, 'a'}, 2, api.ErrLong},
		{[]byte{1, 3, 'a'}, 3, api.ErrShort},
		{[]byte{1, 3, 'a'}, huge, api.ErrShort},
		{[]byte{1, 3, 'a', 'b'}, 3, api.ErrShort},
		{[]byte{1, 1}, 1, api.ErrShort},
		{[]byte{1, 1}, 0, api.ErrLong},
		{[]byte{1, 1}, -1, api.ErrLong},
		{[]byte{1, 1}, math.MinInt, api.ErrLong},
		{[]byte{2, 1, 0, 'a'}, 255, api.ErrLong},
		{[]byte{2, 1, 0, 'a'}, 256, api.ErrShort},
		{[]byte{8, 127, 255, 255, 255, 255, 255, 255, 255, 'a'}, math.MaxInt - 1, api.ErrLong},
		{[]byte{8, 127, 255, 255, 255, 255, 255, 255, 255, 'a'}, math.MaxInt, api.ErrShort},
		{[]byte{8, 64, 0, 0, 0, 0, 0, 0, 0, 'a'}, math.MaxInt, api.ErrShort},
		{[]byte{1, 0}, -1, api.ErrForm},
	} {
		for _, before := range [][]byte{nil, {1, 7}} {
			text, bytes := NewReader(slices.Concat(before, c.b)), NewReader(slices.Concat(before, c.b))
			if before != nil {
				text.Num()
				bytes.Num()
			}
			if s, b := text.Text(c.most), bytes.Bytes(c.most); s != "" || len(b) != 0 {
				t.Errorf("%x: %q, %x", c.b, s, b)
			}
			wantNothing(t, text, api.Fault{Err: c.want, At: len(before)})
			wantNothing(t, bytes, api.Fault{Err: c.want, At: len(before)})
		}
	}
}

// TestFixedLengths reads hashes, keys, words, paces and bools of bytes that are too few, just enough, and one more.
func TestFixedLengths(t *testing.T) {
	v := values()
	for _, k := range kinds()[3:] {
		for _, x := range v[k.name] {
			form := k.form(x)
			for have := range form {
				for _, before := range []int{0, 3} {
					r := NewReader(append(make([]byte, before), form[:have]...))
					for range before {
						r.Num()
					}
					if got := k.read(r); got != k.zero {
						t.Errorf("%s of %x: %v", k.name, form[:have], got)
					}
					wantNothing(t, r, api.Fault{Err: api.ErrShort, At: before})
				}
			}
			r := NewReader(form)
			if got := k.read(r); got != x {
				t.Errorf("%s of %x: %v, not %v", k.name, form, got, x)
			}
			wantEnd(t, r, 0, api.Fault{})
			r = NewReader(append(form, 9))
			if got := k.read(r); got != x {
				t.Errorf("%s of %x: %v, not %v", k.name, form, got, x)
			}
			wantEnd(t, r, 1, api.Fault{Err: api.ErrLong, At: len(form)})
		}
	}
}

func TestBools(t *testing.T) {
	for b := range 256 {
		r := NewReader([]byte{0, byte(b), 1})
		r.Num()
		is := r.Bool()
		if is != (b == 1) {
			t.Error(b, is)
		}
		if b > 1 {
			wantNothing(t, r, api.Fault{Err: api.ErrForm, At: 1})
		} else {
			wantEnd(t, r, 1, api.Fault{Err: api.ErrLong, At: 2})
		}
	}
}

// TestPacesOfNaNs holds that one form alone is a NaN's; the others are words all the same.
func TestPacesOfNaNs(t *testing.T) {
	for _, form := range []uint64{
		0x7FF8000000000001, 0x7FF0000000000001, 0x7FF7FFFFFFFFFFFF, 0x7FFFFFFFFFFFFFFF, 0x7FF8000080000000,
		0xFFF8000000000000, 0xFFF8000000000001, 0xFFF0000000000001, 0xFFFFFFFFFFFFFFFF,
	} {
		r := NewReader(append([]byte{0}, wordBytes(form)...))
		r.Num()
		if x := r.Pace(); math.Float64bits(x) != 0 {
			t.Errorf("%x: %v", form, x)
		}
		wantNothing(t, r, api.Fault{Err: api.ErrForm, At: 1})
		r = NewReader(wordBytes(form))
		if n := r.Word(); n != form {
			t.Errorf("%x: %x", form, n)
		}
		wantEnd(t, r, 0, api.Fault{})
	}
	r := NewReader(wordBytes(0x7FF8000000000000))
	if x := r.Pace(); !math.IsNaN(x) || pace.Bits(x) != 0x7FF8000000000000 {
		t.Error(x)
	}
	wantEnd(t, r, 0, api.Fault{})
}

// TestEndIsNoFault holds that to ask for the end is not to be at it.
func TestEndIsNoFault(t *testing.T) {
	r := NewReader([]byte{1, 5, 1, 6})
	wantEnd(t, r, 4, api.Fault{Err: api.ErrLong})
	if n := r.Num(); n != 5 {
		t.Error(n)
	}
	wantEnd(t, r, 2, api.Fault{Err: api.ErrLong, At: 2})
	if n := r.Num(); n != 6 {
		t.Error(n)
	}
	wantEnd(t, r, 0, api.Fault{})
	wantEnd(t, r, 0, api.Fault{})
	if n := r.Num(); n != 0 {
		t.Error(n)
	}
	wantNothing(t, r, api.Fault{Err: api.ErrShort, At: 4})
}

func TestNoBytes(t *testing.T) {
	for _, b := range [][]byte{nil, {}} {
		wantEnd(t, NewReader(b), 0, api.Fault{})
		for _, k := range kinds() {
			r := NewReader(b)
			if got := k.read(r); got != k.zero {
				t.Errorf("%s: %v", k.name, got)
			}
			wantNothing(t, r, api.Fault{Err: api.ErrShort})
		}
	}
}

// TestReadBytesStay holds that an argument is neither changed nor kept, nor read behind its end; and that what is told is new memory.
func TestReadBytesStay(t *testing.T) {
	room := []byte("\x01\x03abc\x01\x02de\x01\x01f")
	before := slices.Clone(room)
	r := NewReader(room[:9])
	clear(room)
	b := r.Bytes(3)
	if string(b) != "abc" {
		t.Errorf("%q", b)
	}
	b = append(b, "xyz"...)
	clear(b[:cap(b)])
	if s := r.Text(2); s != "de" {
		t.Errorf("%q", s)
	}
	wantEnd(t, r, 0, api.Fault{})
	if !bytes.Equal(room, make([]byte, len(before))) {
		t.Errorf("%q", room)
	}

	copy(room, before)
	r = NewReader(room[:9])
	r.Text(3)
	r.Text(2)
	if s := r.Text(1); s != "" || !bytes.Equal(room, before) {
		t.Errorf("%q %q", s, room)
	}
	wantEnd(t, r, 0, api.Fault{Err: api.ErrShort, At: 9})
}

func TestReadersAreApart(t *testing.T) {
	room := []byte{1, 5, 9}
	a, b := NewReader(room), NewReader(room)
	a.Num()
	a.Num()
	wantEnd(t, a, 0, api.Fault{Err: api.ErrForm, At: 2})
	wantEnd(t, b, 3, api.Fault{Err: api.ErrLong})
}

func TestInvalidReaders(t *testing.T) {
	made := NewReader([]byte("\x01\x03abc"))
	copied := *made
	var zero Reader
	for name, r := range map[string]*Reader{"nil": nil, "zero": &zero, "new": new(Reader), "copied": &copied} {
		t.Run(name, func(t *testing.T) { wantNothing(t, r, api.Fault{Err: api.ErrNil}) })
	}
	if s := made.Text(3); s != "abc" {
		t.Error(s)
	}
	wantEnd(t, made, 0, api.Fault{})
}
