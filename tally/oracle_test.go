package tally

import (
	"math"
	"math/big"
	"slices"
	"testing"

	"landfall/api"
	"landfall/sigs"
)

const (
	ones = math.MaxUint64
	poor = 0xdeadbeefdeadbeef // the signature that stands where nobody is to look
)

var (
	keyA, keyB, keyC = api.Key{1}, api.Key{2}, api.Key{3}
	over, beside     = api.Hash{9}, api.Hash{8} // the hash that is voted for, and another one
)

// table makes a table of signatures; one that comes twice is in it once.
func table(t *testing.T, l ...api.Sig) *sigs.Table {
	t.Helper()
	x, e := sigs.New(api.MaxSigs)
	if e != api.OK {
		t.Fatal(e)
	}
	for _, s := range l {
		if e := x.Add(s); e != api.OK && e != api.ErrDouble {
			t.Fatal(s, e)
		}
	}
	return x
}

// validators makes a list of these powers, whose keys are the numbers from 1 on.
func validators(powers ...int) []api.Validator {
	var l []api.Validator
	for i, n := range powers {
		l = append(l, api.Validator{Key: api.Key{byte((i + 1) % 256), byte((i + 1) / 256)}, Power: n})
	}
	return l
}

// signedBy makes a block that those of these places signed, and the signatures.
func signedBy(l []api.Validator, places ...int) (api.Block, []api.Sig) {
	b := api.Block{Vals: l, Commit: api.Commit{Hash: over}}
	var all []api.Sig
	for _, at := range places {
		n := uint64(at) * 3
		b.Commit.Votes = append(b.Commit.Votes, api.Vote{At: at, Sig: n})
		all = append(all, api.Sig{Key: l[at].Key, Hash: over, Sig: n})
	}
	return b, all
}

// upTo are the places from 0 on, n of them.
func upTo(n int) []int {
	var l []int
	for i := range n {
		l = append(l, i)
	}
	return l
}

// signedOf tells who signed: of each validator every vote is looked at.
func signedOf(b api.Block, l []api.Sig) []int {
	var all []int
	for i, v := range b.Vals {
		if slices.ContainsFunc(b.Commit.Votes, func(x api.Vote) bool {
			return x.At == i && slices.Contains(l, api.Sig{Key: v.Key, Hash: b.Commit.Hash, Sig: x.Sig})
		}) {
			all = append(all, i)
		}
	}
	return all
}

// powerOf tells the power of those for whom is tells true.
func powerOf(l []api.Validator, is func(i int) bool) *big.Int {
	all := new(big.Int)
	for i, v := range l {
		if is(i) && v.Power > 0 {
			all.Add(all, big.NewInt(int64(v.Power)))
		}
	}
	return all
}

func allOf(l []api.Validator) *big.Int {
	return powerOf(l, func(int) bool { return true })
}

func ownOf(b api.Block, l []api.Sig) *big.Int {
	signed := signedOf(b, l)
	return powerOf(b.Vals, func(i int) bool { return slices.Contains(signed, i) })
}

func overOf(set []api.Validator, b api.Block, l []api.Sig) *big.Int {
	signed := signedOf(b, l)
	return powerOf(set, func(i int) bool {
		return slices.ContainsFunc(signed, func(at int) bool { return b.Vals[at].Key == set[i].Key })
	})
}

// passedOf tells whether a part of a total is passed, of numbers from 0 on.
func passedOf(power, total *big.Int, num, den int) bool {
	p := new(big.Int).Mul(power, big.NewInt(int64(den)))
	return p.Cmp(new(big.Int).Mul(total, big.NewInt(int64(num)))) > 0
}

func bigOf(a api.Wide) *big.Int {
	x := new(big.Int).SetUint64(a.Hi)
	return x.Lsh(x, 64).Or(x, new(big.Int).SetUint64(a.Lo))
}

func wideOf(t *testing.T, x *big.Int) api.Wide {
	t.Helper()
	if x.Sign() < 0 || x.BitLen() > 128 {
		t.Fatal("no number of 128 bits:", x)
	}
	return api.Wide{Hi: new(big.Int).Rsh(x, 64).Uint64(), Lo: new(big.Int).And(x, new(big.Int).SetUint64(ones)).Uint64()}
}

// part is num of den.
type part struct{ num, den int }

// parts are those that the chapter's examples name, and edges.
func parts() []part {
	return []part{{1, 3}, {2, 3}, {1, 2}, {9, 14}, {1, 1}, {0, 0}, {0, 1}, {1, 0}, {math.MaxInt, math.MaxInt}, {math.MaxInt - 1, math.MaxInt}}
}

// wrongParts are those of which a number is less than 0.
func wrongParts() []part {
	return []part{{-1, 1}, {1, -1}, {-1, -1}, {-1, 0}, {0, -1}, {math.MinInt, math.MaxInt}, {math.MaxInt, math.MinInt}, {math.MinInt, math.MinInt}, {-2, -3}}
}

// wantTally holds all answers for a block, a set and the signatures of a table against those that are made here.
func wantTally(t *testing.T, set []api.Validator, b api.Block, x *sigs.Table, l []api.Sig) {
	t.Helper()
	if got, want := Signed(b, x), signedOf(b, l); !slices.Equal(got, want) {
		t.Errorf("%v by %v: %v, not %v", b, l, got, want)
	}
	all, own, overs, sets := allOf(b.Vals), ownOf(b, l), overOf(set, b, l), allOf(set)
	for i, r := range []struct {
		got  api.Wide
		want *big.Int
	}{{All(b.Vals), all}, {All(set), sets}, {Own(b, x), own}, {Over(set, b, x), overs}} {
		if bigOf(r.got).Cmp(r.want) != 0 {
			t.Errorf("%d: %v of %v by %v: %v, not %v", i, set, b, l, r.got, r.want)
		}
	}
	if got, want := Strong(b, x), passedOf(own, all, 2, 3); got != want {
		t.Errorf("%v by %v: strong %v", b, l, got)
	}
	for _, p := range parts() {
		if got, e := Trusts(set, b, x, p.num, p.den); got != passedOf(overs, sets, p.num, p.den) || e != api.OK {
			t.Errorf("%v of %v by %v, %v: %v, %v", set, b, l, p, got, e)
		}
	}
	for _, p := range wrongParts() {
		if got, e := Trusts(set, b, x, p.num, p.den); got || e != api.ErrRange {
			t.Errorf("%v of %v by %v, %v: %v, %v", set, b, l, p, got, e)
		}
	}
}

// roomy copies a list, so that its spare capacity has something.
func roomy[T any](l []T, behind ...T) []T {
	return slices.Concat(l, behind)[:len(l)]
}

// roomyBlock copies a block, so that behind its lists stands what would count.
func roomyBlock(b api.Block, l []api.Sig) api.Block {
	b.Commit.Votes = roomy(b.Commit.Votes, api.Vote{At: 0, Sig: poor}, api.Vote{At: 1, Sig: poor}, api.Vote{At: len(b.Vals), Sig: poor})
	b.Vals = roomySet(b.Vals, l)
	return b
}

// roomySet copies a set, so that behind it stand validators who signed.
func roomySet(set []api.Validator, l []api.Sig) []api.Validator {
	behind := []api.Validator{{Key: api.Key{255}, Power: -9}, {Key: keyA, Power: 77}}
	for _, s := range l {
		behind = append(behind, api.Validator{Key: s.Key, Power: 1000})
	}
	return roomy(set, behind...)
}

// whole is a list with its spare capacity.
func whole[T any](l []T) []T {
	return l[:cap(l)]
}
