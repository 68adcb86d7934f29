package commit

import (
	"math"
	"math/big"
	"slices"
	"testing"

	"landfall/api"
)

const (
	highest = 1 << 30            // the greatest height
	poor    = 0xdeadbeefdeadbeef // the signature that stands where nobody is to look
)

// hash is the one of the chapter's examples.
var hash = api.Hash{1}

// of makes a commit of votes: places and signatures in turns.
func of(height int, l ...int) api.Commit {
	c := api.Commit{Height: height, Hash: hash}
	for i := 0; i < len(l); i += 2 {
		c.Votes = append(c.Votes, api.Vote{At: l[i], Sig: uint64(l[i+1])})
	}
	return c
}

// some makes a commit of n votes from a place on, each place one further.
func some(n, from int) api.Commit {
	c := of(5)
	for i := range n {
		c.Votes = append(c.Votes, api.Vote{At: from + i, Sig: uint64(1000 + from + i)})
	}
	return c
}

// same tells whether two commits are equal.
func same(a, b api.Commit) bool {
	return a.Height == b.Height && a.Hash == b.Hash && slices.Equal(a.Votes, b.Votes)
}

// wantCheck tells what Check is to tell.
func wantCheck(c api.Commit) api.Errno {
	switch {
	case c.Height < 1, c.Height > highest:
		return api.ErrRange
	case len(c.Votes) > 64:
		return api.ErrLong
	}
	for i, v := range c.Votes {
		switch {
		case v.At < 0, v.At > 63:
			return api.ErrRange
		case i > 0 && v.At <= c.Votes[i-1].At:
			return api.ErrOrder
		}
	}
	return api.OK
}

// byPlace tells the votes of a commit by their places.
func byPlace(c api.Commit) map[int]uint64 {
	m := map[int]uint64{}
	for _, v := range c.Votes {
		m[v.At] = v.Sig
	}
	return m
}

// with makes a commit of a map's votes.
func with(height int, m map[int]uint64) api.Commit {
	c := of(height)
	for at := range 64 {
		if sig, is := m[at]; is {
			c.Votes = append(c.Votes, api.Vote{At: at, Sig: sig})
		}
	}
	return c
}

// wantAdd tells what Add is to tell, by a map of votes.
func wantAdd(c api.Commit, v api.Vote) (api.Commit, api.Errno) {
	if e := wantCheck(c); e != api.OK {
		return api.Commit{}, e
	}
	m := byPlace(c)
	_, is := m[v.At]
	switch {
	case v.At < 0, v.At > 63:
		return api.Commit{}, api.ErrRange
	case is:
		return api.Commit{}, api.ErrDouble
	}
	m[v.At] = v.Sig
	out := with(c.Height, m)
	out.Hash = c.Hash
	return out, api.OK
}

// wantJoin tells what Join is to tell, by maps of votes.
func wantJoin(a, b api.Commit) (api.Commit, api.Errno) {
	if e := wantCheck(a); e != api.OK {
		return api.Commit{}, e
	}
	if e := wantCheck(b); e != api.OK {
		return api.Commit{}, e
	}
	if a.Height != b.Height || a.Hash != b.Hash {
		return api.Commit{}, api.ErrOrder
	}
	m := byPlace(a)
	for at, sig := range byPlace(b) {
		if other, is := m[at]; is && other != sig {
			return api.Commit{}, api.ErrDouble
		}
		m[at] = sig
	}
	out := with(a.Height, m)
	out.Hash = a.Hash
	return out, api.OK
}

// wantWho tells what Who is to tell.
func wantWho(c api.Commit, l []api.Validator) ([]api.Key, api.Errno) {
	if e := wantCheck(c); e != api.OK {
		return nil, e
	}
	var keys []api.Key
	for at := range 64 {
		if _, is := byPlace(c)[at]; is && at >= len(l) {
			return nil, api.ErrRange
		} else if is {
			keys = append(keys, l[at].Key)
		}
	}
	return keys, api.OK
}

// lists are all commits of at most n votes with these places and signatures.
func lists(n int, places, sigs []int) []api.Commit {
	all := []api.Commit{of(5)}
	for i := 0; i < len(all); i++ {
		if len(all[i].Votes) == n {
			break
		}
		for _, at := range places {
			for _, sig := range sigs {
				c := of(5)
				c.Votes = append(slices.Clone(all[i].Votes), api.Vote{At: at, Sig: uint64(sig)})
				all = append(all, c)
			}
		}
	}
	return all
}

// edges are commits at the edges of what is valid, and beyond, with what Check is to tell.
func edges() []struct {
	c    api.Commit
	want api.Errno
} {
	falls, high, first := some(64, 0), some(64, 1), some(65, 0)
	falls.Votes[63].At = 62
	first.Votes[0].At = -1
	low := some(65, 0)
	low.Height = 0
	equal := of(5)
	equal.Votes = slices.Repeat([]api.Vote{{At: 3, Sig: 1}}, 65)
	return []struct {
		c    api.Commit
		want api.Errno
	}{
		{api.Commit{}, api.ErrRange},
		{api.Commit{Height: 1}, api.OK},
		{api.Commit{Height: 1, Votes: []api.Vote{}}, api.OK},
		{of(math.MinInt), api.ErrRange},
		{of(-1), api.ErrRange},
		{of(0), api.ErrRange},
		{of(1), api.OK},
		{of(2), api.OK},
		{of(highest - 1), api.OK},
		{of(highest), api.OK},
		{of(highest + 1), api.ErrRange},
		{of(math.MaxInt), api.ErrRange},
		{of(5, 0, 0), api.OK},
		{of(5, 63, 0), api.OK},
		{of(5, 0, -1, 63, -1), api.OK},
		{of(5, -1, 0), api.ErrRange},
		{of(5, 64, 0), api.ErrRange},
		{of(5, math.MinInt, 0), api.ErrRange},
		{of(5, math.MaxInt, 0), api.ErrRange},
		{of(5, 0, 1, 64, 1), api.ErrRange},
		{of(5, 0, 1, -1, 1), api.ErrRange},
		{of(5, 0, 1, 0, 1), api.ErrOrder},
		{of(5, 0, 1, 0, 2), api.ErrOrder},
		{of(5, 63, 1, 63, 1), api.ErrOrder},
		{of(5, 3, 1, 2, 1), api.ErrOrder},
		{of(5, 63, 1, 0, 1), api.ErrOrder},
		{of(5, 1, 9, 2, 8, 3, 7), api.OK},
		{of(5, 1, 9, 3, 8, 2, 7), api.ErrOrder},
		{of(5, 3, 9, 1, 8, 2, 7), api.ErrOrder},
		{some(1, 0), api.OK},
		{some(63, 0), api.OK},
		{some(63, 1), api.OK},
		{some(64, 0), api.OK},
		{some(65, 0), api.ErrLong},
		{some(1000, 0), api.ErrLong},
		{high, api.ErrRange},
		{falls, api.ErrOrder},
		// Of two errors: the height's, the number's, then the first vote's; of one vote its range's.
		{low, api.ErrRange},
		{of(0, 3, 1, 3, 1), api.ErrRange},
		{first, api.ErrLong},
		{equal, api.ErrLong},
		{of(5, 3, 1, 3, 1, 64, 1), api.ErrOrder},
		{of(5, 3, 1, 64, 1, 3, 1), api.ErrRange},
		{of(5, 3, 1, 2, 1, -1, 1), api.ErrOrder},
		{of(5, 3, 1, -1, 1, 2, 1), api.ErrRange},
	}
}

// element is a part of a commit's bytes: where it begins, and its bytes.
type element struct {
	at    int
	bytes []byte
}

// elements tells those of any commit, be it valid or not, if its numbers are not less than 0: height, hash, number, and of each vote place and signature.
func elements(c api.Commit) []element {
	pieces := [][]byte{numBytes(c.Height), c.Hash[:], numBytes(len(c.Votes))}
	for _, v := range c.Votes {
		sig := new(big.Int).SetUint64(v.Sig).FillBytes(make([]byte, 8))
		pieces = append(pieces, numBytes(v.At), sig)
	}
	at := 0
	var l []element
	for _, b := range pieces {
		l = append(l, element{at, b})
		at += len(b)
	}
	return l
}

// bytesOf tells a commit's bytes.
func bytesOf(c api.Commit) []byte {
	var b []byte
	for _, e := range elements(c) {
		b = append(b, e.bytes...)
	}
	return b
}

// numBytes tells the bytes of a number by a great one, which has no zeros ahead.
func numBytes(n int) []byte {
	b := big.NewInt(int64(n)).Bytes()
	return append([]byte{byte(len(b))}, b...)
}

// roomy copies a commit, so that the spare capacity of its votes has some.
func roomy(c api.Commit) api.Commit {
	all := append(slices.Clone(c.Votes), api.Vote{At: 0, Sig: poor}, api.Vote{At: 3, Sig: poor}, api.Vote{At: 63, Sig: poor}, api.Vote{At: -5, Sig: poor})
	c.Votes = all[:len(c.Votes)]
	return c
}

// wantSame makes sure that neither a commit's votes, nor what is behind them, were changed.
func wantSame(t *testing.T, is, was api.Commit) {
	t.Helper()
	if !slices.Equal(is.Votes[:cap(is.Votes)], was.Votes[:cap(was.Votes)]) {
		t.Errorf("%v was changed to %v", was.Votes[:cap(was.Votes)], is.Votes[:cap(is.Votes)])
	}
}

// spoil writes over the votes of a commit and over their spare capacity.
func spoil(c api.Commit) {
	l := c.Votes[:cap(c.Votes)]
	for i := range l {
		l[i] = api.Vote{At: 77, Sig: poor}
	}
}
