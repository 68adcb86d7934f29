package tally

import (
	"math"
	"math/big"
	"slices"
	"testing"

	"landfall/api"
)

// powers are the edges, and some between.
func powers() []int {
	return []int{math.MinInt, math.MinInt + 1, -1 << 32, -1, 0, 1, 2, 1 << 32, api.MaxPower, api.MaxPower + 1, math.MaxInt - 1, math.MaxInt}
}

// TestPowers has one to three validators of each power, of whom each choice signed.
func TestPowers(t *testing.T) {
	var lists [][]int
	for _, a := range powers() {
		lists = append(lists, []int{a})
		for _, b := range powers() {
			lists = append(lists, []int{a, b})
			for _, c := range powers() {
				lists = append(lists, []int{a, b, c})
			}
		}
	}
	for _, l := range lists {
		vals := validators(l...)
		if got := All(vals); bigOf(got).Cmp(allOf(vals)) != 0 {
			t.Error(l, got)
		}
		for _, places := range [][]int{{0}, {len(l) - 1}, upTo(len(l))} {
			b, all := signedBy(vals, places...)
			wantTally(t, vals[:1+len(l)/2], b, table(t, all...), all)
		}
	}
}

// TestBelowNothing holds that power below 0 counts as 0: it takes nothing away.
func TestBelowNothing(t *testing.T) {
	vals := validators(-5, 3, math.MinInt, 4, -1)
	b, l := signedBy(vals, 0, 1, 2)
	x := table(t, l...)
	for i, r := range []struct{ got, want api.Wide }{
		{All(vals), api.Wide{Lo: 7}},
		{Own(b, x), api.Wide{Lo: 3}},
		{Over(validators(-8, math.MinInt, 6), b, x), api.Wide{Lo: 6}},
		{All(validators(-1)), api.Wide{}},
		{All(validators(math.MinInt, math.MinInt)), api.Wide{}},
	} {
		if r.got != r.want {
			t.Error(i, r)
		}
	}
	wantTally(t, vals, b, x, l)
}

// TestGreatSums adds up to more than 2^63 and more than 2^64.
func TestGreatSums(t *testing.T) {
	for _, r := range []struct {
		times, power int
		want         api.Wide
	}{
		{2, api.MaxPower, api.Wide{Lo: 1 << 63}},
		{3, api.MaxPower, api.Wide{Lo: 3 << 62}},
		{4, api.MaxPower, api.Wide{Hi: 1}},
		{64, api.MaxPower, api.Wide{Hi: 16}},
		{2, math.MaxInt, api.Wide{Lo: ones - 1}},
		{3, math.MaxInt, api.Wide{Hi: 1, Lo: 1<<63 - 3}},
		{1 << 16, math.MaxInt, api.Wide{Hi: 1<<15 - 1, Lo: ones - 1<<16 + 1}},
		{1 << 20, api.MaxPower, api.Wide{Hi: 1 << 18}},
	} {
		set := slices.Repeat([]api.Validator{{Key: keyA, Power: r.power}}, r.times)
		if got := All(set); got != r.want {
			t.Error(r, got)
		}
		b, l := signedBy(set[:1], 0)
		x := table(t, l...)
		if got := Over(set, b, x); got != r.want {
			t.Error(r, got)
		}
		b.Vals = set
		for i := range set {
			b.Commit.Votes = append(b.Commit.Votes, api.Vote{At: i, Sig: 0})
		}
		if got := Own(b, x); got != r.want {
			t.Error(r, got)
		}
	}
}

// TestManyPowers adds powers that all differ, of some who signed and of others.
func TestManyPowers(t *testing.T) {
	var powers, signed []int
	want := new(big.Int)
	for i := range 1000 {
		n := math.MaxInt - i*i*1000003
		if i%3 == 0 {
			n = -n
		}
		powers = append(powers, n)
		if i%2 == 1 {
			signed = append(signed, i)
			want.Add(want, big.NewInt(int64(max(n, 0))))
		}
	}
	b, l := signedBy(validators(powers...), signed...)
	x := table(t, l...)
	wantSigned(t, b, x, signed...)
	if got := Own(b, x); bigOf(got).Cmp(want) != 0 {
		t.Error(got, want)
	}
	wantTally(t, b.Vals[300:], b, x, l)
}
