package block

import (
	"landfall/api"
	"landfall/commit"
	"landfall/header"
	"landfall/vals"
	"landfall/wire"
)

// items is a reader of parts that have their own bytes.
type items struct {
	*wire.Reader
	size  int       // how many bytes there were at first
	fault api.Fault // the first one, behind which nothing is read
}

// Encode tells the bytes of a block, be it linked or not.
func Encode(b api.Block) ([]byte, api.Errno) {
	h, e := header.Encode(b.H)
	if e != api.OK {
		return nil, e
	}
	l, e := vals.Encode(b.Vals)
	if e != api.OK {
		return nil, e
	}
	c, e := commit.Encode(b.Commit)
	if e != api.OK {
		return nil, e
	}
	w, e := wire.NewWriter(api.MaxWire)
	if e != api.OK {
		return nil, e
	}
	w.Bytes(h)
	w.Bytes(c)
	w.Bytes(l)
	return w.Done()
}

// Decode tells the block of bytes, or what is wrong with them, and where.
func Decode(b []byte) (api.Block, api.Fault) {
	r := &items{Reader: wire.NewReader(b), size: len(b)}
	h := item(r, header.Decode)
	c := item(r, commit.Decode)
	l := item(r, vals.Decode)
	if f := r.end(); f.Err != api.OK {
		return api.Block{}, f
	}
	return api.Block{H: h, Commit: c, Vals: l}, api.Fault{}
}

// item reads the next part by its decoder; or zero, where there is a fault.
func item[T any](r *items, decode func([]byte) (T, api.Fault)) T {
	var none T
	if r.fault.Err != api.OK {
		return none
	}
	at := r.size - r.Rest()
	b := r.Bytes(api.MaxMsg)
	if r.fault = r.broken(); r.fault.Err != api.OK {
		return none
	}
	part, f := decode(b)
	if f.Err != api.OK {
		r.fault = api.Fault{Err: api.ErrForm, At: at}
		return none
	}
	return part
}

// broken tells the reader's own fault. While bytes are left it has none: End would tell of these.
func (r *items) broken() api.Fault {
	if r.Rest() > 0 {
		return api.Fault{}
	}
	return r.End()
}

// end tells the first fault of the items, or the reader's End.
func (r *items) end() api.Fault {
	if r.fault.Err != api.OK {
		return r.fault
	}
	return r.End()
}
