package wire

import (
	"bytes"
	"math"

	"landfall/api"
	"landfall/pace"
)

// Reader is bytes that are read. NewReader makes it.
type Reader struct {
	self *Reader // whose value this is: a copy is not what NewReader made
	cursor
	fault api.Fault
}

// cursor is a place in bytes, and the bytes from there on.
type cursor struct {
	at   int
	rest []byte
}

// broken is what a panic carries that ends an element: its error.
type broken api.Errno

// NewReader makes a reader of bytes.
func NewReader(b []byte) *Reader {
	r := &Reader{cursor: cursor{rest: bytes.Clone(b)}}
	r.self = r
	return r
}

// Num reads a number.
func (r *Reader) Num() int {
	return element(r, (*cursor).number)
}

// Text reads a text of at most that many bytes.
func (r *Reader) Text(most int) string {
	return element(r, func(c *cursor) string { return take(c, c.length(most), textOf) })
}

// Bytes reads bytes, at most that many.
func (r *Reader) Bytes(most int) []byte {
	return element(r, func(c *cursor) []byte { return take(c, c.length(most), bytes.Clone) })
}

// Hash reads a hash.
func (r *Reader) Hash() api.Hash {
	return element(r, func(c *cursor) api.Hash { return take(c, hashLen, hashOf) })
}

// Key reads a key.
func (r *Reader) Key() api.Key {
	return element(r, func(c *cursor) api.Key { return take(c, keyLen, keyOf) })
}

// Word reads a word.
func (r *Reader) Word() uint64 {
	return element(r, func(c *cursor) uint64 { return take(c, wordLen, wordOf) })
}

// Pace reads a pace.
func (r *Reader) Pace() float64 {
	return element(r, func(c *cursor) float64 { return take(c, wordLen, paceOf) })
}

// Bool reads a bool.
func (r *Reader) Bool() bool {
	return element(r, func(c *cursor) bool { return take(c, boolLen, boolOf) })
}

// Rest tells how many bytes are left.
func (r *Reader) Rest() int {
	if !r.valid() {
		return 0
	}
	return len(r.rest)
}

// End tells the fault of a reader that is to have nothing left.
func (r *Reader) End() api.Fault {
	switch {
	case !r.valid():
		return api.Fault{Err: api.ErrNil}
	case r.fault.Err != api.OK:
		return r.fault
	case len(r.rest) > 0:
		return api.Fault{Err: api.ErrLong, At: r.at}
	default:
		return api.Fault{}
	}
}

// valid tells whether NewReader made a reader.
func (r *Reader) valid() bool {
	return r != nil && r.self == r
}

// settle makes the error that ended an element the reader's fault; nothing more is read then.
func (r *Reader) settle(ended any) {
	if e, ok := ended.(broken); ok {
		r.fault = api.Fault{Err: api.Errno(e), At: r.at}
		r.rest = nil
	}
}

// element tells what is read at a reader's place, which is behind it then; or zero.
func element[T any](r *Reader, read func(*cursor) T) T {
	var e T
	if !r.valid() || r.fault.Err != api.OK {
		return e
	}
	defer func() { r.settle(recover()) }()
	next := r.cursor // the reader stays where the element begins till all of it is read
	e = read(&next)
	r.cursor = next
	return e
}

// take tells what is made of the next n bytes, which it passes.
func take[T any](c *cursor, n int, of func([]byte) T) T {
	if n > len(c.rest) {
		panic(broken(api.ErrShort))
	}
	b := c.rest[:n]
	c.rest = c.rest[n:]
	c.at += n
	return of(b)
}

// number reads a number: of how many bytes it is, and these.
func (c *cursor) number() int {
	return take(c, take(c, leadLen, leadOf), numOf)
}

// length reads how many bytes follow, at most that many.
func (c *cursor) length(most int) int {
	n := c.number()
	if n > max(most, 0) {
		panic(broken(api.ErrLong))
	}
	return n
}

// leadOf tells how many bytes a number has by the one ahead of them.
func leadOf(b []byte) int {
	if b[0] > digitsLen {
		panic(broken(api.ErrForm))
	}
	return int(b[0])
}

// numOf tells the number of bytes, of which the first one is not 0.
func numOf(b []byte) int {
	n := wordOf(b)
	if len(b) > 0 && b[0] == 0 || n > math.MaxInt64 {
		panic(broken(api.ErrForm))
	}
	return int(n)
}

// wordOf tells the number of at most 8 bytes, the highest first.
func wordOf(b []byte) uint64 {
	n := uint64(0)
	for _, digit := range b {
		n = n<<8 | uint64(digit)
	}
	return n
}

// paceOf tells the pace whose form these bytes are.
func paceOf(b []byte) float64 {
	x, e := pace.Of(wordOf(b))
	if e != api.OK {
		panic(broken(e))
	}
	return x
}

// boolOf tells the bool of a byte.
func boolOf(b []byte) bool {
	if b[0] > 1 {
		panic(broken(api.ErrForm))
	}
	return b[0] == 1
}

// textOf tells the text of bytes.
func textOf(b []byte) string {
	return string(b)
}

// hashOf tells the hash of as many bytes as it has.
func hashOf(b []byte) api.Hash {
	return api.Hash(b)
}

// keyOf tells the key of as many bytes as it has.
func keyOf(b []byte) api.Key {
	return api.Key(b)
}
