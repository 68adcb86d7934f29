package commit

import (
	"landfall/api"
	"landfall/wire"
)

// Encode tells the bytes of a commit.
func Encode(c api.Commit) ([]byte, api.Errno) {
	if e := Check(c); e != api.OK {
		return nil, e
	}
	w, e := wire.NewWriter(api.MaxWire)
	if e != api.OK {
		return nil, e
	}
	w.Num(c.Height)
	w.Hash(c.Hash)
	w.Num(len(c.Votes))
	for _, v := range c.Votes {
		w.Num(v.At)
		w.Word(v.Sig)
	}
	return w.Done()
}

// Decode tells the commit of bytes, or what is wrong with them, and where.
func Decode(b []byte) (api.Commit, api.Fault) {
	r := wire.NewReader(b)
	c := api.Commit{Height: r.Num(), Hash: r.Hash()}
	at := len(b) - r.Rest()
	n := r.Num()
	if n > api.MaxVals {
		return api.Commit{}, api.Fault{Err: api.ErrLong, At: at}
	}
	for range n {
		c.Votes = append(c.Votes, api.Vote{At: r.Num(), Sig: r.Word()})
	}
	if f := r.End(); f.Err != api.OK {
		return api.Commit{}, f
	}
	if e := Check(c); e != api.OK {
		return api.Commit{}, api.Fault{Err: e}
	}
	return c, api.Fault{}
}
