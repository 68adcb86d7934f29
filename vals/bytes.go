package vals

import (
	"landfall/api"
	"landfall/blake"
	"landfall/wire"
)

// Encode tells the bytes of a set.
func Encode(l []api.Validator) ([]byte, api.Errno) {
	if e := Check(l); e != api.OK {
		return nil, e
	}
	w, e := wire.NewWriter(api.MaxWire)
	if e != api.OK {
		return nil, e
	}
	w.Num(len(l))
	for _, v := range l {
		w.Key(v.Key)
		w.Num(v.Power)
	}
	return w.Done()
}

// Decode tells the set of bytes, or what is wrong with them, and where.
func Decode(b []byte) ([]api.Validator, api.Fault) {
	r := wire.NewReader(b)
	n := r.Num()
	if n > api.MaxVals {
		return nil, api.Fault{Err: api.ErrLong}
	}
	l := make([]api.Validator, 0, n)
	for range n {
		key := r.Key()
		l = append(l, api.Validator{Key: key, Power: r.Num()})
	}
	if f := r.End(); f.Err != api.OK {
		return nil, f
	}
	if e := Check(l); e != api.OK {
		return nil, api.Fault{Err: e}
	}
	return l, api.Fault{}
}

// Hash tells the hash of a set.
func Hash(l []api.Validator) (api.Hash, api.Errno) {
	b, e := Encode(l)
	if e != api.OK {
		return api.Hash{}, e
	}
	return blake.Sum(b), api.OK
}
