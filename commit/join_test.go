package commit

import (
	"math"
	"slices"
	"testing"

	"landfall/api"
)

// wantAdded holds one call of Add: its answer, which is new memory, and that no argument is changed.
func wantAdded(t *testing.T, c api.Commit, v api.Vote, want api.Commit, err api.Errno) {
	t.Helper()
	is := roomy(c)
	got, e := Add(is, v)
	if !same(got, want) || e != err {
		t.Errorf("%v with %v: %v, %v, not %v, %v", c, v, got, e, want, err)
	}
	wantSame(t, is, roomy(c))
	spoil(got)
	wantSame(t, is, roomy(c))
}

// wantJoined holds one call of Join: its answer, which is new memory, and that no argument is changed.
func wantJoined(t *testing.T, a, b, want api.Commit, err api.Errno) {
	t.Helper()
	first, second := roomy(a), roomy(b)
	got, e := Join(first, second)
	if !same(got, want) || e != err {
		t.Errorf("%v and %v: %v, %v, not %v, %v", a, b, got, e, want, err)
	}
	wantSame(t, first, roomy(a))
	wantSame(t, second, roomy(b))
	spoil(got)
	wantSame(t, first, roomy(a))
	wantSame(t, second, roomy(b))
}

// TestAddExamples are the chapter's.
func TestAddExamples(t *testing.T) {
	wantAdded(t, of(5, 3, 9), api.Vote{At: 0, Sig: 7}, of(5, 0, 7, 3, 9), api.OK)
	wantAdded(t, of(5, 3, 9), api.Vote{At: 3, Sig: 9}, api.Commit{}, api.ErrDouble)
	wantAdded(t, of(5), api.Vote{At: -1, Sig: 1}, api.Commit{}, api.ErrRange)
}

func TestAddEdges(t *testing.T) {
	none := api.Commit{}
	wantAdded(t, api.Commit{Height: 1}, api.Vote{}, api.Commit{Height: 1, Votes: []api.Vote{{}}}, api.OK)
	wantAdded(t, of(5), api.Vote{At: 63, Sig: math.MaxUint64}, of(5, 63, -1), api.OK)
	// Ahead of the votes, between them, behind them.
	wantAdded(t, of(5, 3, 9, 6, 8), api.Vote{At: 2, Sig: 1}, of(5, 2, 1, 3, 9, 6, 8), api.OK)
	wantAdded(t, of(5, 3, 9, 6, 8), api.Vote{At: 4, Sig: 1}, of(5, 3, 9, 4, 1, 6, 8), api.OK)
	wantAdded(t, of(5, 3, 9, 6, 8), api.Vote{At: 7, Sig: 1}, of(5, 3, 9, 6, 8, 7, 1), api.OK)
	// A place that is there, with the same signature and with another one.
	for _, sig := range []uint64{0, 1, 8, 9} {
		wantAdded(t, of(5, 3, 9, 6, 8), api.Vote{At: 3, Sig: sig}, none, api.ErrDouble)
		wantAdded(t, of(5, 3, 9, 6, 8), api.Vote{At: 6, Sig: sig}, none, api.ErrDouble)
	}
	for _, at := range []int{-1, 64, math.MinInt, math.MaxInt} {
		wantAdded(t, of(5, 3, 9), api.Vote{At: at}, none, api.ErrRange)
		wantAdded(t, some(64, 0), api.Vote{At: at}, none, api.ErrRange)
	}
	for at := range 64 {
		wantAdded(t, some(64, 0), api.Vote{At: at, Sig: 1}, none, api.ErrDouble)
		less := some(64, 0)
		v := less.Votes[at]
		less.Votes = slices.Delete(less.Votes, at, at+1)
		wantAdded(t, less, v, some(64, 0), api.OK)
	}
	// What is not valid is told ahead of what is wrong with the vote.
	wantAdded(t, of(5, 3, 9, 3, 9), api.Vote{At: 64}, none, api.ErrOrder)
	wantAdded(t, of(5, 3, 9, 3, 9), api.Vote{At: 3}, none, api.ErrOrder)
	wantAdded(t, some(65, 0), api.Vote{At: -1}, none, api.ErrLong)
	wantAdded(t, of(0), api.Vote{At: 1}, none, api.ErrRange)
}

// TestAddAll adds each of some votes to many commits, valid or not.
func TestAddAll(t *testing.T) {
	all := lists(3, []int{-1, 0, 2, 4, 63, 64}, []int{7})
	for _, r := range edges() {
		all = append(all, r.c)
	}
	for _, c := range all {
		for _, at := range []int{-1, 0, 1, 2, 3, 4, 5, 62, 63, 64} {
			for _, sig := range []uint64{7, 8} {
				v := api.Vote{At: at, Sig: sig}
				want, err := wantAdd(c, v)
				wantAdded(t, c, v, want, err)
			}
		}
	}
}

// orders are all orders of some places.
func orders(l []int) [][]int {
	if len(l) == 0 {
		return [][]int{nil}
	}
	var all [][]int
	for i, at := range l {
		rest := slices.Delete(slices.Clone(l), i, i+1)
		for _, o := range orders(rest) {
			all = append(all, append([]int{at}, o...))
		}
	}
	return all
}

// TestAddOrders holds P7.4: in whatever order votes are added, the commit is the same.
func TestAddOrders(t *testing.T) {
	want := of(5, 0, 100, 1, 101, 7, 107, 30, 130, 63, 163)
	for _, o := range orders([]int{0, 1, 7, 30, 63}) {
		c := of(5)
		for _, at := range o {
			next, e := Add(c, api.Vote{At: at, Sig: uint64(100 + at)})
			if e != api.OK {
				t.Fatal(c, at, e)
			}
			c = next
		}
		if !same(c, want) {
			t.Error(o, c)
		}
	}
}

// TestAddBoth adds two votes to one commit: neither answer has the other one's.
func TestAddBoth(t *testing.T) {
	c, _ := Add(of(5), api.Vote{At: 10, Sig: 1})
	c, _ = Add(c, api.Vote{At: 20, Sig: 2})
	c, _ = Add(c, api.Vote{At: 30, Sig: 3})
	one, e := Add(c, api.Vote{At: 40, Sig: 4})
	two, err := Add(c, api.Vote{At: 50, Sig: 5})
	if e != api.OK || err != api.OK || !same(one, of(5, 10, 1, 20, 2, 30, 3, 40, 4)) || !same(two, of(5, 10, 1, 20, 2, 30, 3, 50, 5)) {
		t.Error(one, e, two, err)
	}
	if !same(c, of(5, 10, 1, 20, 2, 30, 3)) {
		t.Error(c)
	}
}

// TestJoinExamples are the chapter's.
func TestJoinExamples(t *testing.T) {
	wantJoined(t, of(5, 0, 7), of(5, 0, 7, 3, 9), of(5, 0, 7, 3, 9), api.OK)
	wantJoined(t, of(5, 0, 7), of(5, 0, 8), api.Commit{}, api.ErrDouble)
	wantJoined(t, of(5), of(6), api.Commit{}, api.ErrOrder)
}

func TestJoinEdges(t *testing.T) {
	none := api.Commit{}
	// No vote shared, some, all.
	wantJoined(t, of(5), of(5), of(5), api.OK)
	wantJoined(t, of(5, 3, 9), of(5), of(5, 3, 9), api.OK)
	wantJoined(t, of(5), of(5, 3, 9), of(5, 3, 9), api.OK)
	wantJoined(t, of(5, 3, 9), of(5, 1, 2), of(5, 1, 2, 3, 9), api.OK)
	wantJoined(t, of(5, 1, 2, 3, 4), of(5, 0, 7, 2, 8, 4, 9), of(5, 0, 7, 1, 2, 2, 8, 3, 4, 4, 9), api.OK)
	wantJoined(t, of(5, 1, 2, 3, 4), of(5, 3, 4, 5, 6), of(5, 1, 2, 3, 4, 5, 6), api.OK)
	wantJoined(t, of(5, 1, 2, 3, 4), of(5, 1, 2, 3, 4), of(5, 1, 2, 3, 4), api.OK)
	wantJoined(t, some(64, 0), some(64, 0), some(64, 0), api.OK)
	wantJoined(t, some(32, 0), some(32, 32), some(64, 0), api.OK)
	wantJoined(t, some(40, 24), some(40, 0), some(64, 0), api.OK)
	// Unequal signatures: of the first vote, of the last one, ahead of more votes.
	wantJoined(t, of(5, 1, 2, 3, 4), of(5, 1, 3), none, api.ErrDouble)
	wantJoined(t, of(5, 1, 2, 3, 4), of(5, 3, 5), none, api.ErrDouble)
	wantJoined(t, of(5, 1, 2, 3, 4), of(5, 0, 1, 3, 0, 6, 1), none, api.ErrDouble)
	wantJoined(t, of(5, 1, 0), of(5, 1, -1), none, api.ErrDouble)
	other := some(64, 0)
	other.Votes[63].Sig++
	wantJoined(t, some(64, 0), other, none, api.ErrDouble)
	// Heights and hashes.
	wantJoined(t, of(6, 1, 2), of(5, 1, 2), none, api.ErrOrder)
	wantJoined(t, of(1, 1, 2), of(highest, 1, 2), none, api.ErrOrder)
	for i := range 32 {
		b := of(5, 1, 2)
		b.Hash[i] ^= 128
		wantJoined(t, of(5, 1, 2), b, none, api.ErrOrder)
		wantJoined(t, b, b, b, api.OK)
	}
	// Of two errors: the first commit's, the second one's, the order's.
	wantJoined(t, of(0), of(5, 3, 1, 3, 1), none, api.ErrRange)
	wantJoined(t, of(5, 3, 1, 3, 1), of(0), none, api.ErrOrder)
	wantJoined(t, some(65, 0), of(5, 64, 1), none, api.ErrLong)
	wantJoined(t, of(5, 64, 1), some(65, 0), none, api.ErrRange)
	wantJoined(t, of(5), some(65, 0), none, api.ErrLong)
	wantJoined(t, of(6), some(65, 0), none, api.ErrLong)
	wantJoined(t, of(6), of(0), none, api.ErrRange)
	wantJoined(t, of(5, 0, 7), of(6, 0, 8), none, api.ErrOrder)
}

// TestJoinAll joins each two of many commits, valid or not, in both orders, and each result with both again: P7.4.
func TestJoinAll(t *testing.T) {
	all := lists(2, []int{0, 1, 2, 63}, []int{7, 8})
	all = append(all, of(5, 0, 7, 1, 7, 2, 7), of(5, 0, 7, 1, 8, 63, 7), of(6, 0, 7), of(6))
	for _, r := range edges() {
		all = append(all, r.c)
	}
	for _, a := range all {
		for _, b := range all {
			want, err := wantJoin(a, b)
			wantJoined(t, a, b, want, err)
			if err != api.OK {
				continue
			}
			wantJoined(t, b, a, want, api.OK)
			wantJoined(t, want, b, want, api.OK)
			wantJoined(t, a, want, want, api.OK)
		}
	}
}

// TestJoinItself joins a commit with itself, and with a part of its own memory.
func TestJoinItself(t *testing.T) {
	c := roomy(some(20, 7))
	part := c
	part.Votes = c.Votes[5:9]
	for _, b := range []api.Commit{c, part} {
		got, e := Join(c, b)
		if !same(got, some(20, 7)) || e != api.OK {
			t.Error(got, e)
		}
		spoil(got)
		wantSame(t, c, roomy(some(20, 7)))
	}
}
