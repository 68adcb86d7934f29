package wire

import (
	"bytes"
	"math/bits"

	"landfall/api"
	"landfall/pace"
)

// Writer is bytes that are written. NewWriter makes it.
type Writer struct {
	self    *Writer // whose value this is: a copy is not what NewWriter made
	limit   int
	written []byte
	err     api.Errno
}

// NewWriter makes a writer of at most limit bytes.
func NewWriter(limit int) (*Writer, api.Errno) {
	if limit < 0 || limit > api.MaxWire {
		return nil, api.ErrRange
	}
	w := &Writer{limit: limit}
	w.self = w
	return w, api.OK
}

// Num writes a number.
func (w *Writer) Num(n int) api.Errno {
	if e := w.refusal(); e != api.OK {
		return e
	}
	if n < 0 {
		return w.fail(api.ErrRange)
	}
	return w.put(numForm(n))
}

// Text writes a text.
func (w *Writer) Text(s string) api.Errno {
	return w.Bytes([]byte(s))
}

// Bytes writes bytes, behind how many they are.
func (w *Writer) Bytes(b []byte) api.Errno {
	return w.put(numForm(len(b)), b)
}

// Hash writes a hash.
func (w *Writer) Hash(h api.Hash) api.Errno {
	return w.put(h[:])
}

// Key writes a key.
func (w *Writer) Key(k api.Key) api.Errno {
	return w.put(k[:])
}

// Word writes a word.
func (w *Writer) Word(n uint64) api.Errno {
	var form [wordLen]byte
	for i := range form {
		form[wordLen-1-i] = byte(n >> (8 * i))
	}
	return w.put(form[:])
}

// Pace writes the word of a pace.
func (w *Writer) Pace(x float64) api.Errno {
	return w.Word(pace.Bits(x))
}

// Bool writes a bool.
func (w *Writer) Bool(is bool) api.Errno {
	if is {
		return w.put([]byte{1})
	}
	return w.put([]byte{0})
}

// Done tells all that was written.
func (w *Writer) Done() ([]byte, api.Errno) {
	if e := w.refusal(); e != api.OK {
		return nil, e
	}
	return bytes.Clone(w.written), api.OK
}

// refusal tells why a writer takes nothing, or OK.
func (w *Writer) refusal() api.Errno {
	if w == nil || w.self != w {
		return api.ErrNil
	}
	return w.err
}

// fail makes an error the writer's; nobody can ask any more what was written before.
func (w *Writer) fail(e api.Errno) api.Errno {
	w.err = e
	w.written = nil
	return e
}

// put appends the pieces of one thing, all of them or none.
func (w *Writer) put(pieces ...[]byte) api.Errno {
	if e := w.refusal(); e != api.OK {
		return e
	}
	size := len(w.written)
	for _, p := range pieces {
		size += len(p)
	}
	if size > w.limit {
		return w.fail(api.ErrLong)
	}
	for _, p := range pieces {
		w.written = append(w.written, p...)
	}
	return api.OK
}

// numForm tells the bytes of a number from 0 on.
func numForm(n int) []byte {
	var form [numLen]byte
	digits := (bits.Len(uint(n)) + 7) / 8
	for i := range digits {
		form[numLen-1-i] = byte(n >> (8 * i))
	}
	lead := numLen - digits - leadLen
	form[lead] = byte(digits)
	return form[lead:]
}
