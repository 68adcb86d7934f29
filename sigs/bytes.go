package sigs

import (
	"landfall/api"
	"landfall/wire"
)

// sigLen is how many bytes a signature has: those of its key, its hash and its word.
const sigLen = len(api.Key{}) + len(api.Hash{}) + 8

// Encode tells the bytes of a table.
func (t *Table) Encode() ([]byte, api.Errno) {
	if !t.valid() {
		return nil, api.ErrNil
	}
	w, e := wire.NewWriter(api.MaxWire)
	if e != api.OK {
		return nil, e
	}
	w.Num(len(t.held))
	for _, s := range t.sorted() {
		w.Key(s.Key)
		w.Hash(s.Hash)
		w.Word(s.Sig)
	}
	return w.Done()
}

// Decode tells the table of bytes, or what is wrong with them, and where.
func Decode(b []byte) (*Table, api.Fault) {
	r := wire.NewReader(b)
	n := r.Num()
	if n > api.MaxSigs {
		return nil, api.Fault{Err: api.ErrLong}
	}
	t, e := New(api.MaxSigs)
	if e != api.OK {
		return nil, api.Fault{Err: e}
	}
	var previous signature
	for i := range n {
		rest := r.Rest()
		s := next(r)
		// A signature that is cut off is none that could be compared: the reader tells where.
		if rest < sigLen {
			return nil, r.End()
		}
		if i > 0 && s.compare(previous) <= 0 {
			return nil, api.Fault{Err: api.ErrOrder, At: len(b) - rest}
		}
		t.held[s] = struct{}{}
		previous = s
	}
	if f := r.End(); f.Err != api.OK {
		return nil, f
	}
	return t, api.Fault{}
}

// next reads a signature.
func next(r *wire.Reader) signature {
	return signature{Key: r.Key(), Hash: r.Hash(), Sig: r.Word()}
}
