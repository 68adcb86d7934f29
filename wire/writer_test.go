package wire

import (
	"bytes"
	"math"
	"slices"
	"strings"
	"testing"

	"landfall/api"
)

// writer makes one that must be made.
func writer(t *testing.T, limit int) *Writer {
	t.Helper()
	w, e := NewWriter(limit)
	if w == nil || e != api.OK {
		t.Fatal(limit, w, e)
	}
	return w
}

// wantDone holds that a writer has these bytes.
func wantDone(t *testing.T, w *Writer, want []byte) {
	t.Helper()
	if b, e := w.Done(); !bytes.Equal(b, want) || e != api.OK {
		t.Errorf("%x %v, not %x", b, e, want)
	}
}

// wantError holds that each call of a writer tells an error, and no bytes.
func wantError(t *testing.T, w *Writer, want api.Errno) {
	t.Helper()
	for name, e := range map[string]api.Errno{
		"Num(-1)": w.Num(-1),
		"Num":     w.Num(1),
		"Text":    w.Text("a"),
		"none":    w.Text(""),
		"long":    w.Text(strings.Repeat("a", api.MaxWire+1)),
		"Bytes":   w.Bytes([]byte{1}),
		"nil":     w.Bytes(nil),
		"Hash":    w.Hash(api.Hash{}),
		"Key":     w.Key(api.Key{}),
		"Word":    w.Word(1),
		"Pace":    w.Pace(1),
		"NaN":     w.Pace(math.NaN()),
		"true":    w.Bool(true),
		"false":   w.Bool(false),
	} {
		if e != want {
			t.Errorf("%s: %v, not %v", name, e, want)
		}
	}
	if b, e := w.Done(); len(b) != 0 || e != want {
		t.Errorf("Done: %x %v, not %v", b, e, want)
	}
}

// TestWriterExamples are the chapter's.
func TestWriterExamples(t *testing.T) {
	w := writer(t, 100)
	for i, e := range []api.Errno{w.Num(0), w.Num(255), w.Num(256), w.Text("ab"), w.Word(1), w.Bool(true)} {
		if e != api.OK {
			t.Error(i, e)
		}
	}
	wantDone(t, w, []byte{0, 1, 255, 2, 1, 0, 1, 2, 'a', 'b', 0, 0, 0, 0, 0, 0, 0, 1, 1})

	w = writer(t, 100)
	if e := w.Num(-1); e != api.ErrRange {
		t.Error(e)
	}
	if e := w.Num(1); e != api.ErrRange {
		t.Error(e)
	}
	if b, e := w.Done(); len(b) != 0 || e != api.ErrRange {
		t.Error(b, e)
	}

	w = writer(t, 2)
	if e := w.Num(256); e != api.ErrLong {
		t.Error(e)
	}
	if e := w.Num(1); e != api.ErrLong {
		t.Error(e)
	}
}

func TestNewWriter(t *testing.T) {
	for _, limit := range []int{math.MinInt, -2, -1, 1<<20 + 1, 1 << 21, math.MaxInt} {
		if w, e := NewWriter(limit); w != nil || e != api.ErrRange {
			t.Error(limit, w, e)
		}
	}
	for _, limit := range []int{0, 1, 2, 1<<20 - 1, 1 << 20} {
		w := writer(t, limit)
		wantDone(t, w, nil)
		for i := range min(limit, 3) {
			if e := w.Bool(true); e != api.OK {
				t.Error(limit, i, e)
			}
		}
		wantDone(t, w, bytes.Repeat([]byte{1}, min(limit, 3)))
	}
}

func TestNumbersAreWritten(t *testing.T) {
	for n, want := range map[int][]byte{
		0:                  {0},
		1:                  {1, 1},
		255:                {1, 255},
		256:                {2, 1, 0},
		257:                {2, 1, 1},
		65535:              {2, 255, 255},
		65536:              {3, 1, 0, 0},
		1 << 40:            {6, 1, 0, 0, 0, 0, 0},
		1 << 62:            {8, 64, 0, 0, 0, 0, 0, 0, 0},
		math.MaxInt64:      {8, 127, 255, 255, 255, 255, 255, 255, 255},
		0x0102030405060708: {8, 1, 2, 3, 4, 5, 6, 7, 8},
		0x01020304050607:   {7, 1, 2, 3, 4, 5, 6, 7},
	} {
		w := writer(t, 9)
		if e := w.Num(n); e != api.OK {
			t.Error(n, e)
		}
		wantDone(t, w, want)
	}
	for _, n := range []int{-1, -2, -256, math.MinInt} {
		w := writer(t, 9)
		if e := w.Num(n); e != api.ErrRange {
			t.Error(n, e)
		}
		wantError(t, w, api.ErrRange)
	}
}

func TestPacesAreWritten(t *testing.T) {
	for _, r := range []struct {
		x    float64
		want []byte
	}{
		{0, []byte{0, 0, 0, 0, 0, 0, 0, 0}},
		{math.Copysign(0, -1), []byte{0x80, 0, 0, 0, 0, 0, 0, 0}},
		{1, []byte{0x3f, 0xf0, 0, 0, 0, 0, 0, 0}},
		{0.1, []byte{0x3f, 0xb9, 0x99, 0x99, 0x99, 0x99, 0x99, 0x9a}},
		{math.Inf(-1), []byte{0xff, 0xf0, 0, 0, 0, 0, 0, 0}},
		{math.NaN(), []byte{0x7f, 0xf8, 0, 0, 0, 0, 0, 0}},
		{math.Float64frombits(0x7FF8000000000000), []byte{0x7f, 0xf8, 0, 0, 0, 0, 0, 0}},
		{math.Float64frombits(0xFFF8000000000123), []byte{0x7f, 0xf8, 0, 0, 0, 0, 0, 0}},
		{math.Float64frombits(math.MaxUint64), []byte{0x7f, 0xf8, 0, 0, 0, 0, 0, 0}},
	} {
		w := writer(t, 8)
		if e := w.Pace(r.x); e != api.OK {
			t.Error(r.x, e)
		}
		wantDone(t, w, r.want)
	}
}

// TestForms holds each thing's bytes, behind another thing's, against those worked out in another way.
func TestForms(t *testing.T) {
	v := values()
	for _, k := range kinds() {
		for _, x := range v[k.name] {
			w := writer(t, api.MaxWire)
			if e := w.Num(300); e != api.OK {
				t.Error(e)
			}
			if e := k.write(w, x); e != api.OK {
				t.Errorf("%s: %v", k.name, e)
			}
			wantDone(t, w, append([]byte{2, 1, 44}, k.form(x)...))
		}
	}
}

// TestLimit gives each thing just room enough, and one byte less; nothing of what is refused is written, and all after it is refused.
func TestLimit(t *testing.T) {
	v := values()
	for _, k := range kinds() {
		for _, x := range v[k.name] {
			for _, before := range []int{0, 1, 5} {
				form := append(bytes.Repeat([]byte{1}, before), k.form(x)...)
				full, less := writer(t, len(form)), writer(t, len(form)-1)
				for range before {
					full.Bool(true)
					less.Bool(true)
				}
				if e := k.write(full, x); e != api.OK {
					t.Errorf("%s, %d bytes: %v", k.name, len(form), e)
				}
				wantDone(t, full, form)
				if e := k.write(less, x); e != api.ErrLong {
					t.Errorf("%s, %d bytes, one less: %v", k.name, len(form), e)
				}
				if b, e := less.Done(); len(b) != 0 || e != api.ErrLong {
					t.Errorf("%s: %x %v", k.name, b, e)
				}
				if e := less.Bool(true); e != api.ErrLong {
					t.Errorf("%s: a byte after it: %v", k.name, e)
				}
			}
		}
	}
}

func TestFullWriter(t *testing.T) {
	v := values()
	for _, limit := range []int{0, 1, 4} {
		for _, k := range kinds() {
			w := writer(t, limit)
			for range limit {
				w.Bool(false)
			}
			wantDone(t, w, make([]byte, limit))
			if e := k.write(w, v[k.name][0]); e != api.ErrLong {
				t.Errorf("%s, %d bytes: %v", k.name, limit, e)
			}
			wantError(t, w, api.ErrLong)
		}
	}
}

func TestGreatestWriter(t *testing.T) {
	const room = 1<<20 - 4 // beside 3, and 3 bytes of how many there are
	body := letters(room)
	for _, write := range []func(w *Writer, s string) api.Errno{
		func(w *Writer, s string) api.Errno { return w.Text(s) },
		func(w *Writer, s string) api.Errno { return w.Bytes([]byte(s)) },
	} {
		w := writer(t, 1<<20)
		if e := write(w, body); e != api.OK {
			t.Error(e)
		}
		wantDone(t, w, append([]byte{3, 0x0f, 0xff, 0xfc}, body...))
		if e := w.Num(0); e != api.ErrLong {
			t.Error("one byte more:", e)
		}
		w = writer(t, 1<<20)
		if e := write(w, body+"a"); e != api.ErrLong {
			t.Error("a longer text:", e)
		}
		wantError(t, w, api.ErrLong)
		w = writer(t, 1<<20)
		if e := write(w, strings.Repeat("a", 1<<24)); e != api.ErrLong {
			t.Error("a far longer text:", e)
		}
	}
}

// TestFirstErrorStays holds which error is told if two apply, and that the first one is never replaced.
func TestFirstErrorStays(t *testing.T) {
	w := writer(t, 0)
	if e := w.Num(-1); e != api.ErrRange {
		t.Error("no room for it, and below 0:", e)
	}
	wantError(t, w, api.ErrRange)

	w = writer(t, 3)
	w.Bool(true)
	if e := w.Word(1); e != api.ErrLong {
		t.Error(e)
	}
	if e := w.Num(-1); e != api.ErrLong {
		t.Error("an error before, and below 0:", e)
	}
	wantError(t, w, api.ErrLong)
	wantError(t, w, api.ErrLong)
}

// TestDone holds that it changes nothing, and tells new memory.
func TestDone(t *testing.T) {
	w := writer(t, 100)
	w.Text("abc")
	first, _ := w.Done()
	clear(first)
	more := append(first, "xyz"...)
	w.Text("de")
	wantDone(t, w, []byte("\x01\x03abc\x01\x02de"))
	wantDone(t, w, []byte("\x01\x03abc\x01\x02de"))
	if string(more) != "\x00\x00\x00\x00\x00xyz" {
		t.Errorf("%q", more)
	}
	last, _ := w.Done()
	clear(last[:cap(last)])
	wantDone(t, w, []byte("\x01\x03abc\x01\x02de"))
}

func TestWritersAreApart(t *testing.T) {
	a, b := writer(t, 10), writer(t, 1)
	a.Num(5)
	if e := b.Num(6); e != api.ErrLong {
		t.Error(e)
	}
	a.Num(7)
	wantDone(t, a, []byte{1, 5, 1, 7})
}

// TestWrittenBytesStay holds that an argument is neither changed nor kept, nor is its spare room used.
func TestWrittenBytesStay(t *testing.T) {
	room := []byte("abcdefgh")
	before := slices.Clone(room)
	w := writer(t, 100)
	w.Bytes(room[:3])
	w.Bytes(room[3:5])
	if !bytes.Equal(room, before) {
		t.Errorf("%q", room)
	}
	clear(room)
	wantDone(t, w, []byte("\x01\x03abc\x01\x02de"))
}

func TestInvalidWriters(t *testing.T) {
	made := writer(t, 100)
	made.Text("abc")
	copied := *made
	var zero Writer
	for name, w := range map[string]*Writer{"nil": nil, "zero": &zero, "new": new(Writer), "copied": &copied} {
		t.Run(name, func(t *testing.T) { wantError(t, w, api.ErrNil) })
	}
	wantDone(t, made, []byte("\x01\x03abc"))
}
