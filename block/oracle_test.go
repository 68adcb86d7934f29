package block

import (
	"math/big"
	"reflect"
	"slices"
	"strings"
	"testing"

	"landfall/api"
	"landfall/blake"
)

const (
	highest = 1 << 30            // the greatest height
	latest  = 1 << 40            // the greatest time
	strong  = 1 << 62            // the greatest power
	mostMsg = 65536              // how many bytes an item has at most
	poor    = 0xdeadbeefdeadbeef // the signature that stands where nobody is to look
)

// two is the set of the chapter's examples.
func two() []api.Validator {
	return []api.Validator{{Key: api.Key{3: 1}, Power: 5}, {Key: api.Key{3: 2}, Power: 7}}
}

// some makes a set of n validators.
func some(n int) []api.Validator {
	var l []api.Validator
	for i := range n {
		l = append(l, api.Validator{Key: api.Key{2: 1, 3: byte(2 * i)}, Power: 1 + i*i*i})
	}
	return l
}

// votes makes one vote for each of these places.
func votes(places ...int) []api.Vote {
	var l []api.Vote
	for _, at := range places {
		l = append(l, api.Vote{At: at, Sig: uint64(at)*0x0101010101010101 + 9})
	}
	return l
}

// upTo are the places from 0 on, n of them.
func upTo(n int) []int {
	var l []int
	for i := range n {
		l = append(l, i)
	}
	return l
}

// linked makes a block that is linked, by other means than Make: its hashes are those of bytes that are written here.
func linked(h api.Header, l []api.Validator, votes []api.Vote) api.Block {
	h.Vals = blake.Sum(valsBytes(l))
	return api.Block{H: h, Commit: api.Commit{Height: h.Height, Hash: hashOf(h), Votes: votes}, Vals: l}
}

func hashOf(h api.Header) api.Hash {
	return blake.Sum(append([]byte{72}, headerBytes(h)...))
}

// plain is the header of the chapter's examples.
func plain() api.Header {
	return api.Header{Chain: "a", Height: 3, Time: 4}
}

// greatest is the header whose numbers and name are as great as they may be, and no two bytes of whose hashes are alike.
func greatest() api.Header {
	h := api.Header{Chain: strings.Repeat("z", 32), Height: highest, Time: latest}
	for i := range 32 {
		h.Prev[i], h.Next[i], h.App[i] = byte(i+1), byte(i+65), byte(i+97)
	}
	return h
}

// chapter is the block of the chapter's examples.
func chapter() api.Block {
	return linked(plain(), two(), nil)
}

// links are blocks that are linked, the edges among them.
func links() []api.Block {
	heavy := some(64)
	for i := range heavy {
		heavy[i].Power = strong
	}
	empty := chapter()
	empty.Commit.Votes = []api.Vote{}
	all := []api.Block{chapter(), empty, linked(plain(), two(), votes(0, 1)), linked(plain(), two(), votes(1)), linked(greatest(), heavy, votes(upTo(64)...))}
	for _, n := range []int{1, 2, 3, 63, 64} {
		for _, h := range []api.Header{plain(), greatest(), {Chain: "-", Height: 1}, {Chain: strings.Repeat("0", 32), Height: 255, Time: 256}} {
			all = append(all, linked(h, some(n), nil), linked(h, some(n), votes(0)), linked(h, some(n), votes(n-1)), linked(h, some(n), votes(upTo(n)...)))
		}
	}
	return all
}

// unfit are blocks whose parts are valid, but do not belong together.
func unfit() []api.Block {
	votes := votes(0, 5, 63)
	all := []api.Block{
		{H: greatest(), Commit: api.Commit{Height: 1, Votes: votes}, Vals: some(1)},
		{H: api.Header{Chain: "sea-1", Height: 1, Vals: api.Hash{1}}, Commit: api.Commit{Height: highest, Hash: api.Hash{31: 255}}, Vals: two()},
	}
	for _, b := range links()[:6] {
		b.H.Vals[7]++
		all = append(all, b)
	}
	return all
}

// change is one that is made to a block, and which error the block has then.
type change struct {
	make func(b *api.Block)
	want api.Errno
}

// The changes that make a part of the block of the chapter's examples not valid; the first of each changes nothing.
func wrongHeaders() []change {
	return []change{
		{func(b *api.Block) {}, api.OK},
		{func(b *api.Block) { b.H.Chain = "A" }, api.ErrForm},
		{func(b *api.Block) { b.H.Chain = "" }, api.ErrForm},
		{func(b *api.Block) { b.H.Chain = strings.Repeat("a", 33) }, api.ErrForm},
		{func(b *api.Block) { b.H.Height = 0 }, api.ErrRange},
		{func(b *api.Block) { b.H.Height = highest + 1 }, api.ErrRange},
		{func(b *api.Block) { b.H.Time = -1 }, api.ErrRange},
		{func(b *api.Block) { b.H.Time = latest + 1 }, api.ErrRange},
	}
}

func wrongVals() []change {
	return []change{
		{func(b *api.Block) {}, api.OK},
		{func(b *api.Block) { b.Vals = nil }, api.ErrShort},
		{func(b *api.Block) { b.Vals = []api.Validator{} }, api.ErrShort},
		{func(b *api.Block) { b.Vals = some(65) }, api.ErrLong},
		{func(b *api.Block) { b.Vals = slices.Repeat(two()[:1], 2) }, api.ErrOrder},
		{func(b *api.Block) { b.Vals = []api.Validator{two()[1], two()[0]} }, api.ErrOrder},
		{func(b *api.Block) { b.Vals = []api.Validator{two()[0], {Key: api.Key{3: 9}}} }, api.ErrRange},
		{func(b *api.Block) { b.Vals = []api.Validator{{Power: strong + 1}} }, api.ErrRange},
	}
}

func wrongCommits() []change {
	return []change{
		{func(b *api.Block) {}, api.OK},
		{func(b *api.Block) { b.Commit.Height = 0 }, api.ErrRange},
		{func(b *api.Block) { b.Commit.Height = highest + 1 }, api.ErrRange},
		{func(b *api.Block) { b.Commit.Votes = votes(upTo(65)...) }, api.ErrLong},
		{func(b *api.Block) { b.Commit.Votes = votes(0, 64) }, api.ErrRange},
		{func(b *api.Block) { b.Commit.Votes = votes(-1) }, api.ErrRange},
		{func(b *api.Block) { b.Commit.Votes = votes(1, 1) }, api.ErrOrder},
		{func(b *api.Block) { b.Commit.Votes = votes(1, 0) }, api.ErrOrder},
	}
}

// firstOf tells the first error of some.
func firstOf(errors ...api.Errno) api.Errno {
	for _, e := range errors {
		if e != api.OK {
			return e
		}
	}
	return api.OK
}

// equal tells whether two blocks are, field by field; lists that are nil or empty are.
func equal(a, b api.Block) bool {
	return reflect.DeepEqual(bare(a), bare(b))
}

// bare makes the lists of a block nil if they are empty.
func bare(b api.Block) api.Block {
	if len(b.Commit.Votes) == 0 {
		b.Commit.Votes = nil
	}
	if len(b.Vals) == 0 {
		b.Vals = nil
	}
	return b
}

// numBytes tells the bytes of a number by a great one, which has no zeros ahead.
func numBytes(n int) []byte {
	b := big.NewInt(int64(n)).Bytes()
	return append([]byte{byte(len(b))}, b...)
}

// headerBytes, commitBytes and valsBytes tell the bytes of any of these, be it valid or not, if its numbers are not less than 0.
func headerBytes(h api.Header) []byte {
	return slices.Concat(numBytes(len(h.Chain)), []byte(h.Chain), numBytes(h.Height), numBytes(h.Time), h.Prev[:], h.Vals[:], h.Next[:], h.App[:])
}

func commitBytes(c api.Commit) []byte {
	b := slices.Concat(numBytes(c.Height), c.Hash[:], numBytes(len(c.Votes)))
	for _, v := range c.Votes {
		b = slices.Concat(b, numBytes(v.At), new(big.Int).SetUint64(v.Sig).FillBytes(make([]byte, 8)))
	}
	return b
}

func valsBytes(l []api.Validator) []byte {
	b := numBytes(len(l))
	for _, v := range l {
		b = slices.Concat(b, v.Key[:], numBytes(v.Power))
	}
	return b
}

// part tells an item's bytes, behind how many they are.
func part(b []byte) []byte {
	return append(numBytes(len(b)), b...)
}

// parts are the three items of a block's bytes.
func parts(b api.Block) [3][]byte {
	return [3][]byte{part(headerBytes(b.H)), part(commitBytes(b.Commit)), part(valsBytes(b.Vals))}
}

// bytesOf tells a block's bytes.
func bytesOf(b api.Block) []byte {
	p := parts(b)
	return slices.Concat(p[:]...)
}

// begins tells where the three items of a block's bytes begin.
func begins(b api.Block) [3]int {
	p := parts(b)
	return [3]int{0, len(p[0]), len(p[0]) + len(p[1])}
}

// roomy copies a block, so that the spare capacity of its lists has something.
func roomy(b api.Block) api.Block {
	v := append(slices.Clone(b.Commit.Votes), api.Vote{At: 0, Sig: poor}, api.Vote{At: 3, Sig: poor}, api.Vote{At: -5, Sig: poor})
	l := append(slices.Clone(b.Vals), api.Validator{Key: api.Key{255}, Power: -9}, api.Validator{Power: 1}, api.Validator{Power: 77})
	b.Commit.Votes, b.Vals = v[:len(b.Commit.Votes)], l[:len(b.Vals)]
	return b
}

// wantSame makes sure that neither a block's lists, nor what is behind them, were changed.
func wantSame(t *testing.T, is, was api.Block) {
	t.Helper()
	if !slices.Equal(is.Commit.Votes[:cap(is.Commit.Votes)], was.Commit.Votes[:cap(was.Commit.Votes)]) || !slices.Equal(is.Vals[:cap(is.Vals)], was.Vals[:cap(was.Vals)]) {
		t.Errorf("%v was changed to %v", was, is)
	}
}

// spoil writes over the lists of a block and over their spare capacity.
func spoil(b api.Block) {
	for i := range b.Commit.Votes[:cap(b.Commit.Votes)] {
		b.Commit.Votes[:cap(b.Commit.Votes)][i] = api.Vote{At: 77, Sig: poor}
	}
	for i := range b.Vals[:cap(b.Vals)] {
		b.Vals[:cap(b.Vals)][i] = api.Validator{Key: api.Key{7, 7}, Power: -77}
	}
}
