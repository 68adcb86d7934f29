package header

import (
	"landfall/api"
	"landfall/blake"
	"landfall/wire"
)

// hashLead is the byte ahead of a header's bytes where they are hashed.
const hashLead = 72

// Encode tells the bytes of a header.
func Encode(h api.Header) ([]byte, api.Errno) {
	if e := Check(h); e != api.OK {
		return nil, e
	}
	w, e := wire.NewWriter(api.MaxWire)
	if e != api.OK {
		return nil, e
	}
	w.Text(h.Chain)
	w.Num(h.Height)
	w.Num(h.Time)
	for _, hash := range hashes(&h) {
		w.Hash(*hash)
	}
	return w.Done()
}

// Decode tells the header of bytes, or what is wrong with them, and where.
func Decode(b []byte) (api.Header, api.Fault) {
	r := wire.NewReader(b)
	h := api.Header{Chain: r.Text(api.MaxName), Height: r.Num(), Time: r.Num()}
	for _, hash := range hashes(&h) {
		*hash = r.Hash()
	}
	if f := r.End(); f.Err != api.OK {
		return api.Header{}, f
	}
	if e := Check(h); e != api.OK {
		return api.Header{}, api.Fault{Err: e}
	}
	return h, api.Fault{}
}

// Hash tells the hash of a header.
func Hash(h api.Header) (api.Hash, api.Errno) {
	b, e := Encode(h)
	if e != api.OK {
		return api.Hash{}, e
	}
	return blake.Sum(append([]byte{hashLead}, b...)), api.OK
}

// hashes are those of a header, in the order of its bytes.
func hashes(h *api.Header) [4]*api.Hash {
	return [4]*api.Hash{&h.Prev, &h.Vals, &h.Next, &h.App}
}
