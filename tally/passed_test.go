package tally

import (
	"math"
	"math/big"
	"slices"
	"testing"

	"landfall/api"
)

// wides are sums at the edges, and some between.
func wides() []api.Wide {
	return []api.Wide{
		{}, {Lo: 1}, {Lo: 2}, {Lo: 3}, {Lo: 1 << 32}, {Lo: 1 << 62}, {Lo: 1<<63 - 1}, {Lo: 1 << 63}, {Lo: ones - 1}, {Lo: ones},
		{Hi: 1}, {Hi: 1, Lo: 1}, {Hi: 1, Lo: ones}, {Hi: 2}, {Hi: 3, Lo: 3}, {Hi: 1<<63 - 1, Lo: ones}, {Hi: 1 << 63}, {Hi: ones}, {Hi: ones, Lo: ones - 1}, {Hi: ones, Lo: ones},
	}
}

// TestPassed holds each sum against each one, in each part.
func TestPassed(t *testing.T) {
	numbers := []int{math.MinInt, math.MinInt + 1, -3, -1, 0, 1, 2, 3, 7, 1 << 32, 1 << 62, math.MaxInt - 1, math.MaxInt}
	for _, power := range wides() {
		for _, total := range wides() {
			for _, num := range numbers {
				for _, den := range numbers {
					is, e := Passed(power, total, num, den)
					if num < 0 || den < 0 {
						if is || e != api.ErrRange {
							t.Error(power, total, num, den, is, e)
						}
					} else if is != passedOf(bigOf(power), bigOf(total), num, den) || e != api.OK {
						t.Error(power, total, num, den, is, e)
					}
				}
			}
		}
	}
}

// TestPassedExamples are the chapter's, and some that are as plain.
func TestPassedExamples(t *testing.T) {
	quarter, all := api.Wide{Lo: 1 << 62}, api.Wide{Hi: ones, Lo: ones}
	for _, r := range []struct {
		power, total api.Wide
		num, den     int
		is           bool
		err          api.Errno
	}{
		{api.Wide{Lo: 1}, api.Wide{Lo: 3}, 1, 3, false, api.OK},
		{quarter, quarter, 1, 2, true, api.OK},
		{api.Wide{Lo: 1}, api.Wide{Lo: 1}, -1, 1, false, api.ErrRange},
		{api.Wide{Lo: 1}, api.Wide{Lo: 1}, 1, -1, false, api.ErrRange},
		{api.Wide{}, api.Wide{}, -1, -1, false, api.ErrRange},
		{api.Wide{Lo: 2}, api.Wide{Lo: 3}, 1, 3, true, api.OK},
		{api.Wide{Lo: 3}, api.Wide{Lo: 1}, 1, 3, true, api.OK},
		{api.Wide{Lo: 1}, api.Wide{}, 9, 1, true, api.OK},
		{api.Wide{}, api.Wide{}, 0, 1, false, api.OK},
		{api.Wide{Lo: 5}, api.Wide{Lo: 5}, 1, 0, false, api.OK},
		{api.Wide{Lo: 5}, api.Wide{Lo: 5}, 0, 0, false, api.OK},
		{api.Wide{Lo: 1}, all, 0, 1, true, api.OK},
		{all, all, 1, 1, false, api.OK},
		{all, all, math.MaxInt - 1, math.MaxInt, true, api.OK},
		{all, all, math.MaxInt, math.MaxInt, false, api.OK},
	} {
		if is, e := Passed(r.power, r.total, r.num, r.den); is != r.is || e != r.err {
			t.Error(r, is, e)
		}
	}
}

// TestPassedByOne has products that are equal and that differ by one, below 2^64 and above 2^128.
func TestPassedByOne(t *testing.T) {
	den, num := math.MaxInt, math.MaxInt-1
	n, m := big.NewInt(int64(den)), big.NewInt(int64(num))
	at := func(k, factor *big.Int, more int64) api.Wide {
		x := new(big.Int).Mul(k, factor)
		return wideOf(t, x.Add(x, big.NewInt(more)))
	}
	for _, bits := range []uint{0, 1, 2, 31, 32, 62, 63, 64} {
		k := new(big.Int).Lsh(big.NewInt(1), bits)
		for i, r := range []struct {
			power, total api.Wide
			is           bool
		}{
			{at(k, m, 0), at(k, n, 0), false},
			{at(k, m, 1), at(k, n, 1), true},    // more by one
			{at(k, m, -1), at(k, n, -1), false}, // less by one
			{at(k, m, 1), at(k, n, 0), true},
			{at(k, m, 0), at(k, n, 1), false},
			{at(k, m, 0), at(k, n, -1), true},
		} {
			if is, e := Passed(r.power, r.total, num, den); is != r.is || e != api.OK {
				t.Error(bits, i, r, is, e)
			}
		}
	}
}

// TestStrong has blocks of whose power just two thirds signed, one less and one more.
func TestStrong(t *testing.T) {
	const greatest = math.MaxInt
	for _, r := range []struct {
		powers []int
		signed []int
		want   bool
	}{
		{[]int{1}, nil, false},
		{[]int{1}, []int{0}, true},
		{[]int{0}, []int{0}, false},
		{[]int{-1}, []int{0}, false},
		{[]int{2, 1}, []int{0}, false},
		{[]int{3, 1}, []int{0}, true},
		{[]int{1, 1, 1}, []int{0, 2}, false},
		{[]int{1, 1, 1}, []int{2, 1, 0}, true},
		{[]int{1, 1, 1, 0}, []int{0, 1, 3}, false},
		{[]int{1, 1, 1, 1}, []int{0, 1, 3}, true},
		{[]int{3, 1, -100}, []int{0}, true},
		{[]int{3, 2, -100}, []int{0}, false},
		{[]int{greatest, greatest, greatest}, []int{0, 1}, false},
		{[]int{greatest, greatest, greatest - 1}, []int{0, 1}, true},
		{[]int{greatest, greatest - 1, greatest}, []int{0, 1}, false},
		{slices.Repeat([]int{greatest}, 300), upTo(200), false},
		{slices.Repeat([]int{greatest}, 300), upTo(201), true},
		{append(slices.Repeat([]int{greatest}, 299), greatest-1), upTo(200), true},
		{append([]int{greatest - 1}, slices.Repeat([]int{greatest}, 299)...), upTo(200), false},
		{slices.Repeat([]int{api.MaxPower}, 64), upTo(42), false},
		{slices.Repeat([]int{api.MaxPower}, 64), upTo(43), true},
	} {
		b, l := signedBy(validators(r.powers...), r.signed...)
		x := table(t, l...)
		if got := Strong(b, x); got != r.want {
			t.Error(r, got)
		}
		if got, e := Passed(Own(b, x), All(b.Vals), 2, 3); got != r.want || e != api.OK {
			t.Error(r, got, e)
		}
		wantTally(t, b.Vals, b, x, l)
	}
}

// TestTrusts holds that another set's power counts, not that of the block's own validators.
func TestTrusts(t *testing.T) {
	b, l := signedBy(validators(1, 1000, math.MaxInt), 0)
	x := table(t, l...)
	for _, r := range []struct {
		powers   []int
		num, den int
		want     bool
	}{
		{[]int{1, 2}, 1, 3, false},
		{[]int{2, 3}, 1, 3, true},
		{[]int{2, 3}, 2, 5, false},
		{[]int{2, 3}, 399, 1000, true},
		{[]int{5}, 1, 1, false},
		{[]int{5}, 0, 1, true},
		{[]int{5}, 1, 0, false},
		{[]int{0, 5}, 0, 1, false},
		{[]int{-5, 5}, 0, 1, false},
		{[]int{math.MaxInt, math.MaxInt, math.MaxInt}, 1, 3, false},
		{[]int{math.MaxInt, math.MaxInt, math.MaxInt - 1}, 1, 3, true},
		{[]int{math.MaxInt - 1, math.MaxInt, math.MaxInt}, 1, 3, false},
		{[]int{math.MaxInt, math.MinInt}, math.MaxInt - 1, math.MaxInt, true},
		{nil, 0, 1, false},
	} {
		if got, e := Trusts(validators(r.powers...), b, x, r.num, r.den); got != r.want || e != api.OK {
			t.Error(r, got, e)
		}
	}
	// A key that is in the set more than once counts each time.
	set := []api.Validator{{Key: b.Vals[0].Key, Power: 2}, {Key: keyC, Power: 6}, {Key: b.Vals[0].Key, Power: 3}}
	if got, e := Trusts(set, b, x, 5, 12); !got || e != api.OK {
		t.Error(got, e)
	}
	if got, e := Trusts(set, b, x, 5, 11); got || e != api.OK {
		t.Error(got, e)
	}
	for _, p := range wrongParts() {
		for _, set := range [][]api.Validator{nil, set} {
			if got, e := Trusts(set, b, x, p.num, p.den); got || e != api.ErrRange {
				t.Error(p, got, e)
			}
		}
	}
}

// TestMoreSignatures holds P10.3: with one signature after the other nobody has signed less.
func TestMoreSignatures(t *testing.T) {
	vals := append(validators(3, 0, -4, math.MaxInt, 7, 1), api.Validator{Key: keyA, Power: 11})
	set := append(validators(math.MaxInt, 5, 6), vals...)
	b, l := signedBy(vals, 5, 0, 6, 3, 1, 2)
	b.Commit.Votes = append(b.Commit.Votes, api.Vote{At: 4, Sig: 1}, api.Vote{At: 7, Sig: 1}, api.Vote{At: -1, Sig: 1})
	l = append(l, api.Sig{Key: vals[4].Key, Hash: beside, Sig: 1}, api.Sig{Key: vals[4].Key, Hash: over, Sig: 2}, api.Sig{Key: vals[4].Key, Hash: over, Sig: 1})
	for range l {
		x := table(t)
		var before []int
		var own, overs api.Wide
		for i, s := range l {
			if e := x.Add(s); e != api.OK && e != api.ErrDouble {
				t.Fatal(s, e)
			}
			signed := Signed(b, x)
			for _, at := range before {
				if !slices.Contains(signed, at) {
					t.Error(l[:i+1], at, signed)
				}
			}
			more, most := Own(b, x), Over(set, b, x)
			if bigOf(more).Cmp(bigOf(own)) < 0 || bigOf(most).Cmp(bigOf(overs)) < 0 {
				t.Error(l[:i+1], own, more, overs, most)
			}
			before, own, overs = signed, more, most
			wantTally(t, set, b, x, l[:i+1])
		}
		wantSigned(t, b, x, upTo(7)...)
		l = append(l[1:], l[0])
	}
}

// TestBothStrong holds P10.4: if two blocks of the same validators are strong, more than a third of their power signed both.
func TestBothStrong(t *testing.T) {
	for _, powers := range [][]int{{1}, {1, 1}, {3, 1}, {1, 1, 1}, {1, 1, 1, 1}, {1, 2, 3, 4}, {5, 0, 2, 2}, {-3, 4, 1, 1}, {math.MaxInt, math.MaxInt, math.MaxInt, math.MaxInt, 1}, {1, 1, 1, 1, 1}} {
		vals := validators(powers...)
		n, both := len(powers), 0
		for i := range 1 << n {
			for k := range 1 << n {
				one, l := signedBy(vals, bits(i)...)
				two, _ := signedBy(vals, bits(k)...)
				two.Commit.Hash = beside
				for _, v := range two.Commit.Votes {
					l = append(l, api.Sig{Key: vals[v.At].Key, Hash: beside, Sig: v.Sig})
				}
				x := table(t, l...)
				if !Strong(one, x) || !Strong(two, x) {
					continue
				}
				both++
				common := powerOf(vals, func(at int) bool {
					return slices.Contains(Signed(one, x), at) && slices.Contains(Signed(two, x), at)
				})
				if is, e := Passed(wideOf(t, common), All(vals), 1, 3); !is || e != api.OK {
					t.Error(powers, i, k, common)
				}
			}
		}
		if both == 0 {
			t.Error("none was strong:", powers)
		}
	}
}

// bits are the places of a number's bits that are 1.
func bits(n int) []int {
	var l []int
	for i := 0; n>>i > 0; i++ {
		if n>>i&1 == 1 {
			l = append(l, i)
		}
	}
	return l
}
