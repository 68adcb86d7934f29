package tally

import (
	"math"
	"slices"
	"testing"

	"landfall/api"
	"landfall/header"
	"landfall/sigs"
)

// chapter is the block of the chapter's examples, and the signatures of its table.
func chapter() (api.Block, []api.Sig) {
	b := api.Block{
		Commit: api.Commit{Hash: over, Votes: []api.Vote{{At: 0, Sig: 4}, {At: 2, Sig: 5}}},
		Vals:   []api.Validator{{Key: keyA, Power: 1}, {Key: keyB, Power: 2}, {Key: keyC, Power: 3}},
	}
	return b, []api.Sig{{Key: keyA, Hash: over, Sig: 4}, {Key: keyC, Hash: over, Sig: 5}}
}

// wantSigned makes sure who signed a block.
func wantSigned(t *testing.T, b api.Block, x *sigs.Table, want ...int) {
	t.Helper()
	if got := Signed(b, x); !slices.Equal(got, want) {
		t.Errorf("%v: %v, not %v", b, got, want)
	}
}

// TestExamples are the chapter's.
func TestExamples(t *testing.T) {
	b, l := chapter()
	x := table(t, l...)
	wantSigned(t, b, x, 0, 2)
	if Own(b, x) != (api.Wide{Lo: 4}) || All(b.Vals) != (api.Wide{Lo: 6}) || Strong(b, x) {
		t.Error(Own(b, x), All(b.Vals), Strong(b, x))
	}
	heavy, _ := chapter()
	heavy.Vals[2].Power = 4
	if !Strong(heavy, x) {
		t.Error("5 of 7 is more than two thirds")
	}
	other := []api.Validator{{Key: keyB, Power: 5}, {Key: keyC, Power: 9}}
	if w := Over(other, b, x); w != (api.Wide{Lo: 9}) {
		t.Error(w)
	}
	if is, e := Trusts(other, b, x, 1, 3); !is || e != api.OK {
		t.Error(is, e)
	}
	if is, e := Trusts(other, b, x, 9, 14); is || e != api.OK {
		t.Error(is, e)
	}
	twice, beyond := b, b
	twice.Commit.Votes = append(slices.Clone(b.Commit.Votes), api.Vote{At: 0, Sig: 4})
	beyond.Commit.Votes = append(slices.Clone(b.Commit.Votes), api.Vote{At: 3, Sig: 4})
	wantSigned(t, twice, x, 0, 2)
	wantSigned(t, beyond, x, 0, 2)
	wantSigned(t, b, nil)
}

// TestAnswers goes through small blocks of each kind, with each table: keys and places that come more than once or not at all, votes in each order.
func TestAnswers(t *testing.T) {
	var lists [][]api.Validator
	for n := range 4 {
		for keys := range 1 << n {
			l := make([]api.Validator, n)
			for i := range l {
				l[i] = api.Validator{Key: []api.Key{keyA, keyB}[keys>>i&1], Power: []int{3, 5, 90}[i]}
			}
			lists = append(lists, l)
		}
	}
	votes := [][]api.Vote{nil}
	for from, n := 0, 0; n < 2; n++ {
		to := len(votes)
		for _, l := range votes[from:to] {
			for at := -1; at <= 3; at++ {
				for _, sig := range []uint64{4, 5} {
					votes = append(votes, append(slices.Clone(l), api.Vote{At: at, Sig: sig}))
				}
			}
		}
		from = to
	}
	set := []api.Validator{{Key: keyB, Power: 4}, {Key: keyA, Power: 1}, {Key: keyC, Power: 2}, {Key: keyA, Power: 20}}
	for of := range 16 {
		l := []api.Sig{{Key: keyA, Hash: beside, Sig: 4}, {Key: keyB, Hash: beside, Sig: 5}, {Key: keyC, Hash: over, Sig: 4}}
		for i, s := range []api.Sig{{Key: keyA, Sig: 4}, {Key: keyA, Sig: 5}, {Key: keyB, Sig: 4}, {Key: keyB, Sig: 5}} {
			if of>>i&1 == 1 {
				s.Hash = over
				l = append(l, s)
			}
		}
		x := table(t, l...)
		for _, vals := range lists {
			for _, v := range votes {
				wantTally(t, set, api.Block{Commit: api.Commit{Hash: over, Votes: v}, Vals: vals}, x, l)
			}
		}
	}
}

// TestPlaces votes for places that are validators', and for others.
func TestPlaces(t *testing.T) {
	for _, n := range []int{1, 2, 3, 63, 64, 65, 300} {
		vals := validators(slices.Repeat([]int{2}, n)...)
		var l []api.Sig
		for _, v := range vals {
			l = append(l, api.Sig{Key: v.Key, Hash: over, Sig: 7})
		}
		l = append(l, api.Sig{Hash: over, Sig: 7})
		x := table(t, l...)
		for _, at := range []int{0, n / 2, n - 1} {
			b := api.Block{Commit: api.Commit{Hash: over, Votes: []api.Vote{{At: at, Sig: 7}}}, Vals: vals}
			wantSigned(t, b, x, at)
			wantTally(t, vals, b, x, l)
		}
		for _, at := range []int{-1, -2, -n, n, n + 1, 2 * n, 1 << 32, -1 << 32, math.MinInt, math.MinInt + 1, math.MaxInt, math.MaxInt - 1} {
			b := api.Block{Commit: api.Commit{Hash: over, Votes: []api.Vote{{At: at, Sig: 7}}}, Vals: vals}
			wantSigned(t, b, x)
			if Own(b, x) != (api.Wide{}) || Over(vals, b, x) != (api.Wide{}) {
				t.Error(n, at, Own(b, x), Over(vals, b, x))
			}
			// A vote for no place keeps none behind it from counting.
			b.Commit.Votes = append(b.Commit.Votes, api.Vote{At: n - 1, Sig: 7})
			wantSigned(t, b, x, n-1)
			wantTally(t, vals, b, x, l)
		}
	}
}

// TestOrder has votes that come in any order, and often: indices ascend, each once.
func TestOrder(t *testing.T) {
	vals := validators(slices.Repeat([]int{1}, 200)...)
	b, l := signedBy(vals, upTo(200)...)
	x := table(t, l...)
	slices.Reverse(b.Commit.Votes)
	wantSigned(t, b, x, upTo(200)...)
	b.Commit.Votes = slices.Repeat(b.Commit.Votes, 3)
	wantSigned(t, b, x, upTo(200)...)
	wantTally(t, vals[:77], b, x, l)
	b, l = signedBy(vals, 150, 3, 199, 0, 64, 63)
	x = table(t, l...)
	wantSigned(t, b, x, 0, 3, 63, 64, 150, 199)
	wantTally(t, vals[60:], b, x, l)
}

// TestOnePlace has two votes for one place, of which one holds: it does not matter which one comes first.
func TestOnePlace(t *testing.T) {
	b, l := chapter()
	x := table(t, l...)
	for _, v := range [][]api.Vote{{{At: 2, Sig: 6}, {At: 2, Sig: 5}}, {{At: 2, Sig: 5}, {At: 2, Sig: 6}}, {{At: 2, Sig: 5}, {At: 2, Sig: 5}}} {
		b.Commit.Votes = v
		wantSigned(t, b, x, 2)
		wantTally(t, b.Vals, b, x, l)
	}
	b.Commit.Votes = []api.Vote{{At: 2, Sig: 6}, {At: 2, Sig: 4}}
	wantSigned(t, b, x)
}

// TestOneKey has validators of one key: of a block those count that have a vote of their own, of another set all.
func TestOneKey(t *testing.T) {
	b := api.Block{Vals: []api.Validator{{Key: keyA, Power: 1}, {Key: keyA, Power: 10}, {Key: keyB, Power: 100}, {Key: keyA, Power: 1000}}}
	b.Commit = api.Commit{Hash: over, Votes: []api.Vote{{At: 1, Sig: 4}}}
	l := []api.Sig{{Key: keyA, Hash: over, Sig: 4}}
	x := table(t, l...)
	wantSigned(t, b, x, 1)
	if Own(b, x) != (api.Wide{Lo: 10}) || Over(b.Vals, b, x) != (api.Wide{Lo: 1011}) {
		t.Error(Own(b, x), Over(b.Vals, b, x))
	}
	b.Commit.Votes = []api.Vote{{At: 3, Sig: 4}, {At: 0, Sig: 4}, {At: 2, Sig: 4}}
	wantSigned(t, b, x, 0, 3)
	if Own(b, x) != (api.Wide{Lo: 1001}) || Over(b.Vals, b, x) != (api.Wide{Lo: 1011}) {
		t.Error(Own(b, x), Over(b.Vals, b, x))
	}
	wantTally(t, b.Vals, b, x, l)
}

// TestOtherSignatures has tables whose signatures differ from a vote's in key, hash or number.
func TestOtherSignatures(t *testing.T) {
	b := api.Block{Vals: []api.Validator{{Key: keyA, Power: 1}}, Commit: api.Commit{Hash: over, Votes: []api.Vote{{At: 0, Sig: 4}}}}
	right := api.Sig{Key: keyA, Hash: over, Sig: 4}
	var wrong []api.Sig
	but := func(change func(s *api.Sig)) {
		s := right
		change(&s)
		wrong = append(wrong, s)
	}
	but(func(s *api.Sig) { s.Key = keyB })
	but(func(s *api.Sig) { s.Hash = beside })
	but(func(s *api.Sig) { s.Sig = 5 })
	for i := range 8 {
		but(func(s *api.Sig) { s.Key[i%4] ^= 1 << i })
		but(func(s *api.Sig) { s.Sig ^= 1 << (8*i + i) })
	}
	for i := range 32 {
		but(func(s *api.Sig) { s.Hash[i] ^= 1 << (i % 8) })
	}
	for _, s := range wrong {
		wantSigned(t, b, table(t, s))
		wantTally(t, b.Vals, b, table(t, s), []api.Sig{s})
	}
	wantSigned(t, b, table(t, wrong...))
	wantSigned(t, b, table(t, append(wrong, right)...), 0)
}

// TestCommitAlone holds that of a block its votes, their hash and its validators alone count, be it valid or not.
func TestCommitAlone(t *testing.T) {
	b, l := chapter()
	b.H = api.Header{Chain: "sea", Height: 2, Time: 20}
	b.Commit.Height = 2
	of, e := header.Hash(b.H)
	if e != api.OK {
		t.Fatal(e)
	}
	// These are over the header's hash, which is not the commit's.
	others := []api.Sig{{Key: keyA, Hash: of, Sig: 4}, {Key: keyB, Hash: of, Sig: 4}, {Key: keyC, Hash: of, Sig: 5}}
	x := table(t, append(others, l...)...)
	wantSigned(t, b, table(t, others...))
	for _, h := range []api.Header{b.H, {}, {Chain: "A", Height: -1, Time: math.MinInt}, {Chain: "sea", Height: 9, Vals: over, Next: over, Prev: over, App: over}} {
		for _, height := range []int{2, 0, 3, math.MinInt, math.MaxInt} {
			c := b
			c.H, c.Commit.Height = h, height
			wantSigned(t, c, x, 0, 2)
			wantTally(t, b.Vals, c, x, l)
		}
	}
	b.Commit.Hash = of
	wantSigned(t, b, x, 0, 2)
	b.Commit.Hash = beside
	wantSigned(t, b, x)
	// The hash of noughts is one like another.
	b.Commit.Hash = api.Hash{}
	wantSigned(t, b, table(t, api.Sig{Key: keyA, Sig: 4}), 0)
}

// TestNothing has lists that are nil or empty: nobody signed, and nothing is passed.
func TestNothing(t *testing.T) {
	b, l := chapter()
	x := table(t, l...)
	for _, votes := range [][]api.Vote{nil, {}, b.Commit.Votes, b.Commit.Votes[:0]} {
		for _, vals := range [][]api.Validator{nil, {}, b.Vals, b.Vals[:0]} {
			for _, set := range [][]api.Validator{nil, {}, b.Vals, b.Vals[:0]} {
				c := api.Block{Commit: api.Commit{Hash: over, Votes: votes}, Vals: vals}
				wantTally(t, set, c, x, l)
				if len(votes) == 0 || len(vals) == 0 {
					wantSigned(t, c, x)
				}
			}
		}
	}
	wantTally(t, nil, api.Block{}, x, l)
	wantTally(t, b.Vals, b, table(t), nil)
	if All(nil) != (api.Wide{}) || All([]api.Validator{}) != (api.Wide{}) || Strong(api.Block{}, x) {
		t.Error("something of nothing")
	}
}

// TestNoTable has tables that no function returned: they have no signatures, and errors are told as of others.
func TestNoTable(t *testing.T) {
	b, l := chapter()
	copied := *table(t, l...)
	for i, x := range []*sigs.Table{nil, {}, new(sigs.Table), &copied} {
		wantSigned(t, b, x)
		if Own(b, x) != (api.Wide{}) || Over(b.Vals, b, x) != (api.Wide{}) || Strong(b, x) {
			t.Error(i, Own(b, x), Over(b.Vals, b, x), Strong(b, x))
		}
		wantTally(t, b.Vals, b, x, nil)
		for _, p := range wrongParts() {
			if is, e := Trusts(nil, api.Block{}, x, p.num, p.den); is || e != api.ErrRange {
				t.Error(i, p, is, e)
			}
		}
	}
	wantSigned(t, b, table(t, l...), 0, 2)
}

// TestLeftAlone holds that nothing is changed that is passed, that what stands behind a list does not count, and that an answer is memory of its own.
func TestLeftAlone(t *testing.T) {
	b, l := signedBy(validators(1, 20, 300, 4000), 3, 1)
	inTable := slices.Clone(l)
	for i, v := range b.Vals {
		inTable = append(inTable, api.Sig{Key: v.Key, Hash: over, Sig: poor}, api.Sig{Key: v.Key, Hash: beside, Sig: uint64(i)})
	}
	x := table(t, inTable...)
	set := validators(7, 80, 900)
	wasTable := x.List()
	is, was := roomyBlock(b, inTable), roomyBlock(b, inTable)
	isSet, wasSet := roomySet(set, inTable), roomySet(set, inTable)
	wantTally(t, isSet, is, x, inTable)
	same := func() bool {
		return slices.Equal(whole(is.Commit.Votes), whole(was.Commit.Votes)) && slices.Equal(whole(is.Vals), whole(was.Vals)) &&
			slices.Equal(whole(isSet), whole(wasSet)) && slices.Equal(x.List(), wasTable)
	}
	if !same() {
		t.Errorf("%v and %v were changed to %v and %v", was, wasSet, is, isSet)
	}
	got := Signed(is, x)
	again := Signed(is, x)
	for i := range whole(got) {
		whole(got)[i] = -77
	}
	if !same() || !slices.Equal(again, []int{1, 3}) {
		t.Error("an answer shares memory:", is, again)
	}
	wantTally(t, isSet, is, x, inTable)
	for i := range whole(is.Commit.Votes) {
		whole(is.Commit.Votes)[i] = api.Vote{At: 2, Sig: 6}
	}
	clear(whole(is.Vals))
	if !slices.Equal(again, []int{1, 3}) {
		t.Error("an answer shares memory with a block:", again)
	}
	wantTally(t, isSet, is, x, inTable)
}
