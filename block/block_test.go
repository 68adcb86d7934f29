package block

import (
	"math"
	"slices"
	"strings"
	"testing"

	"landfall/api"
	"landfall/header"
)

// TestLinkedExamples are the chapter's.
func TestLinkedExamples(t *testing.T) {
	for i, r := range []change{
		{func(b *api.Block) {}, api.OK},
		{func(b *api.Block) { b.Commit.Votes = []api.Vote{{At: 1, Sig: 9}} }, api.OK},
		{func(b *api.Block) { b.Commit.Votes = []api.Vote{{At: 2, Sig: 9}} }, api.ErrRange},
		{func(b *api.Block) { b.Commit.Height = 4 }, api.ErrHeight},
		{func(b *api.Block) { b.H.Time = 5 }, api.ErrLink},
		{func(b *api.Block) { b.Vals = b.Vals[:1] }, api.ErrLink},
		{func(b *api.Block) { b.H.Height = 0 }, api.ErrRange},
		{func(b *api.Block) { b.Vals = nil }, api.ErrShort},
	} {
		b, e := Make(plain(), two())
		if e != api.OK {
			t.Fatal(e)
		}
		r.make(&b)
		if e := Linked(b); e != r.want {
			t.Error(i, e)
		}
	}
}

// TestLinkedBlocks holds that blocks are linked that were put together by other means, and that nothing of them is changed.
func TestLinkedBlocks(t *testing.T) {
	for _, b := range links() {
		is := roomy(b)
		if e := Linked(is); e != api.OK {
			t.Error(b, e)
		}
		wantSame(t, is, roomy(b))
	}
	for _, b := range unfit() {
		if e := Linked(b); e != api.ErrLink {
			t.Error(b, e)
		}
	}
	if e := Linked(api.Block{}); e != api.ErrForm {
		t.Error(e)
	}
}

// wrongLinks are changes by which hashes do not fit: one alone, and both.
func wrongLinks() []change {
	return []change{
		{func(b *api.Block) {}, api.OK},
		{func(b *api.Block) { b.H.Vals[0]++; b.Commit.Hash = hashOf(b.H) }, api.ErrLink},
		{func(b *api.Block) { b.Commit.Hash[31] ^= 128 }, api.ErrLink},
		{func(b *api.Block) { b.H.App[5]++ }, api.ErrLink},
		{func(b *api.Block) { b.H.Vals = api.Hash{} }, api.ErrLink},
		{func(b *api.Block) { b.H.Height++ }, api.ErrLink},
		{func(b *api.Block) { b.Vals[1].Power++ }, api.ErrLink},
	}
}

// TestLinkedOrder puts together each choice of what is wrong with header, validators, commit, hashes, height and places: the first one's error is told.
func TestLinkedOrder(t *testing.T) {
	heights := []change{
		{func(b *api.Block) {}, api.OK},
		{func(b *api.Block) { b.Commit.Height++ }, api.ErrHeight},
		{func(b *api.Block) { b.Commit.Height-- }, api.ErrHeight},
	}
	places := []change{
		{func(b *api.Block) { b.Commit.Votes = votes(0, 1) }, api.OK},
		{func(b *api.Block) { b.Commit.Votes = votes(0, 1, 2) }, api.ErrRange},
		{func(b *api.Block) { b.Commit.Votes = votes(63) }, api.ErrRange},
	}
	var chosen []change
	var choose func(left [][]change)
	choose = func(left [][]change) {
		if len(left) > 0 {
			for _, c := range left[0] {
				chosen = append(chosen, c)
				choose(left[1:])
				chosen = chosen[:len(chosen)-1]
			}
			return
		}
		b := chapter()
		var errors []api.Errno
		// What counts first is changed last, so that nothing puts it right again.
		for _, c := range slices.Backward(chosen) {
			c.make(&b)
			errors = append(errors, c.want)
		}
		slices.Reverse(errors)
		if e := Linked(b); e != firstOf(errors...) {
			t.Errorf("%v: %v of %v", b, e, errors)
		}
	}
	choose([][]change{wrongHeaders(), wrongVals(), wrongCommits(), wrongLinks(), heights, places})
}

// TestPlaces votes for the last place of the validators, and for those behind it.
func TestPlaces(t *testing.T) {
	for n := 1; n <= 64; n++ {
		for at := range 64 {
			want := api.OK
			if at >= n {
				want = api.ErrRange
			}
			for _, l := range [][]api.Vote{votes(at), votes(upTo(at + 1)...)} {
				if e := Linked(linked(plain(), some(n), l)); e != want {
					t.Errorf("%d, %v: %v", n, l, e)
				}
			}
		}
		for _, at := range []int{64, 65, math.MaxInt, -1, math.MinInt} {
			if e := Linked(linked(plain(), some(n), votes(at))); e != api.ErrRange {
				t.Errorf("%d, %d: %v", n, at, e)
			}
		}
	}
}

// TestEachBit changes each bit of what is held against a hash: no other header, set or hash is the one.
func TestEachBit(t *testing.T) {
	for _, base := range []api.Block{chapter(), linked(greatest(), some(5), votes(0, 4))} {
		for i := range 32 {
			for bit := range 8 {
				for k, hash := range []func(b *api.Block) *api.Hash{
					func(b *api.Block) *api.Hash { return &b.Commit.Hash },
					func(b *api.Block) *api.Hash { return &b.H.Prev },
					func(b *api.Block) *api.Hash { return &b.H.Vals },
					func(b *api.Block) *api.Hash { return &b.H.Next },
					func(b *api.Block) *api.Hash { return &b.H.App },
				} {
					b := base
					hash(&b)[i] ^= 1 << bit
					if e := Linked(b); e != api.ErrLink {
						t.Error(k, i, bit, e)
					}
				}
				b := base
				b.H.Vals[i] ^= 1 << bit
				b.Commit.Hash = hashOf(b.H)
				if e := Linked(b); e != api.ErrLink {
					t.Error(i, bit, e)
				}
			}
		}
	}
}

// TestNotLinkedAnyMore holds P9.4: another header, another set, or another height.
func TestNotLinkedAnyMore(t *testing.T) {
	for _, base := range links() {
		for i, c := range []change{
			{func(b *api.Block) { b.H.Chain = "another" }, api.ErrLink},
			{func(b *api.Block) { b.H.Time = (b.H.Time + 1) % latest }, api.ErrLink},
			{func(b *api.Block) { b.H.Height = b.H.Height%highest + 1 }, api.ErrLink},
			{func(b *api.Block) { b.H.Height, b.Commit.Height = 7, 7 }, api.ErrLink},
			{func(b *api.Block) { b.H = greatest() }, api.ErrLink},
			{func(b *api.Block) { b.Vals = []api.Validator{{Power: 1}} }, api.ErrLink},
			{func(b *api.Block) { b.Vals[len(b.Vals)-1].Power = b.Vals[len(b.Vals)-1].Power%7 + 1 }, api.ErrLink},
			{func(b *api.Block) { b.Vals[0].Key = api.Key{} }, api.ErrLink},
			{func(b *api.Block) { b.Commit.Height = b.Commit.Height%highest + 1 }, api.ErrHeight},
			{func(b *api.Block) { b.Commit.Height = 100 }, api.ErrHeight},
		} {
			b := base
			b.Vals = slices.Clone(base.Vals)
			c.make(&b)
			if e := Linked(b); e != c.want {
				t.Error(base, i, e)
			}
		}
	}
}

// TestHash holds that the header alone counts.
func TestHash(t *testing.T) {
	for _, b := range slices.Concat(links(), unfit()) {
		want := hashOf(b.H)
		for _, o := range []api.Block{roomy(b), {H: b.H}, {H: b.H, Commit: api.Commit{Height: -1}, Vals: some(65)}} {
			if h, e := Hash(o); h != want || e != api.OK {
				t.Error(o, h, e)
			}
		}
	}
	for _, c := range wrongHeaders()[1:] {
		b := chapter()
		c.make(&b)
		if h, e := Hash(b); h != (api.Hash{}) || e != c.want {
			t.Error(b, h, e)
		}
	}
	if h, e := Hash(api.Block{}); h != (api.Hash{}) || e != api.ErrForm {
		t.Error(h, e)
	}
	if h, e := Hash(chapter()); e != api.OK || Linked(chapter()) != api.OK || h != chapter().Commit.Hash {
		t.Error(h, e)
	}
	if h, e := header.Hash(chapter().H); e != api.OK || h != chapter().Commit.Hash {
		t.Error(h, e)
	}
}

// neighbours are blocks each of which differs from the first one, and from each other, in few places: mostly in one alone.
func neighbours() []api.Block {
	var all []api.Block
	but := func(change func(b *api.Block)) {
		b := linked(greatest(), some(3), votes(0, 2))
		change(&b)
		all = append(all, b)
	}
	but(func(b *api.Block) {})
	but(func(b *api.Block) { b.H.Chain = b.H.Chain[1:] })
	but(func(b *api.Block) { b.H.Chain = "" })
	but(func(b *api.Block) { b.H.Height-- })
	but(func(b *api.Block) { b.H.Height = -1 })
	but(func(b *api.Block) { b.H.Time-- })
	but(func(b *api.Block) { b.H.Time = math.MinInt })
	but(func(b *api.Block) { b.H.Height, b.H.Time = b.H.Time, b.H.Height })
	but(func(b *api.Block) { b.Commit.Height-- })
	but(func(b *api.Block) { b.Commit.Height = 0 })
	but(func(b *api.Block) { b.Commit.Hash, b.H.Vals = b.H.Vals, b.Commit.Hash })
	but(func(b *api.Block) { b.H.Prev, b.H.Next = b.H.Next, b.H.Prev })
	for i := range 32 {
		for _, bit := range []byte{1, 128} {
			but(func(b *api.Block) { b.H.Prev[i] ^= bit })
			but(func(b *api.Block) { b.H.Vals[i] ^= bit })
			but(func(b *api.Block) { b.H.Next[i] ^= bit })
			but(func(b *api.Block) { b.H.App[i] ^= bit })
			but(func(b *api.Block) { b.Commit.Hash[i] ^= bit })
		}
	}
	for i := range 2 {
		but(func(b *api.Block) { b.Commit.Votes[i].At += 7 })
		but(func(b *api.Block) { b.Commit.Votes[i].Sig ^= 1 })
		but(func(b *api.Block) { b.Commit.Votes[i].Sig ^= 1 << 63 })
		but(func(b *api.Block) { b.Commit.Votes = slices.Delete(b.Commit.Votes, i, i+1) })
	}
	but(func(b *api.Block) { b.Commit.Votes = append(b.Commit.Votes, api.Vote{}) })
	but(func(b *api.Block) { b.Commit.Votes = nil })
	but(func(b *api.Block) { slices.Reverse(b.Commit.Votes) })
	for i := range 3 {
		for k := range 4 {
			but(func(b *api.Block) { b.Vals[i].Key[k] ^= 64 })
		}
		but(func(b *api.Block) { b.Vals[i].Power += 1000 })
		but(func(b *api.Block) { b.Vals[i].Power = -1 })
		but(func(b *api.Block) { b.Vals = slices.Delete(b.Vals, i, i+1) })
	}
	but(func(b *api.Block) { b.Vals = append(b.Vals, api.Validator{}) })
	but(func(b *api.Block) { b.Vals = nil })
	but(func(b *api.Block) { slices.Reverse(b.Vals) })
	return append(all, api.Block{}, chapter())
}

// TestSame holds each neighbour against each one, with other things behind their lists.
func TestSame(t *testing.T) {
	all, again := neighbours(), neighbours()
	for i, a := range all {
		for k, b := range again {
			if Same(a, b) != (i == k) {
				t.Errorf("%d %d: %v", i, k, Same(a, b))
			}
		}
		is := roomy(a)
		if !Same(is, a) || !Same(a, is) || !Same(is, is) {
			t.Error(i)
		}
		wantSame(t, is, roomy(a))
	}
}

// TestSameEmpty holds that nil lists and empty ones are the same, but not lists of something without value.
func TestSameEmpty(t *testing.T) {
	none := api.Block{H: plain()}
	empty := api.Block{H: plain(), Commit: api.Commit{Votes: []api.Vote{}}, Vals: []api.Validator{}}
	roomy := api.Block{H: plain(), Commit: api.Commit{Votes: votes(1)[:0]}, Vals: some(3)[:0]}
	for _, a := range []api.Block{none, empty, roomy} {
		for _, b := range []api.Block{none, empty, roomy} {
			if !Same(a, b) {
				t.Error(a, b)
			}
		}
		for _, b := range []api.Block{{H: plain(), Commit: api.Commit{Votes: make([]api.Vote, 1)}}, {H: plain(), Vals: make([]api.Validator, 1)}, {}} {
			if Same(a, b) || Same(b, a) {
				t.Error(a, b)
			}
		}
	}
	if !Same(api.Block{}, api.Block{}) {
		t.Error("blocks without anything")
	}
}

// TestSameText compares names by what is in them.
func TestSameText(t *testing.T) {
	a, b := chapter(), chapter()
	a.H.Chain, b.H.Chain = strings.Repeat("ab", 4), "abababab"
	if !Same(a, b) {
		t.Error(a, b)
	}
}
