package commit

import (
	"math"
	"slices"
	"testing"

	"landfall/api"
)

// TestCheckExamples are the chapter's.
func TestCheckExamples(t *testing.T) {
	for _, r := range []struct {
		c    api.Commit
		want api.Errno
	}{
		{of(5, 0, 7, 3, 9), api.OK},
		{of(0), api.ErrRange},
		{of(5, 3, 1, 3, 1), api.ErrOrder},
		{of(5, 64, 1), api.ErrRange},
	} {
		if e := Check(r.c); e != r.want {
			t.Error(r, e)
		}
	}
	if sig, is := Of(of(5, 0, 7, 3, 9), 3); sig != 9 || !is {
		t.Error(sig, is)
	}
	if sig, is := Of(of(5), 0); sig != 0 || is {
		t.Error(sig, is)
	}
}

func TestCheckEdges(t *testing.T) {
	for _, r := range edges() {
		is := roomy(r.c)
		if e := Check(is); e != r.want || e != wantCheck(r.c) {
			t.Error(r, e)
		}
		wantSame(t, is, roomy(r.c))
	}
}

// TestCheckAll holds all short lists of votes against the document's words.
func TestCheckAll(t *testing.T) {
	for _, c := range lists(3, []int{math.MinInt, -1, 0, 1, 2, 62, 63, 64, math.MaxInt}, []int{0, 7}) {
		for _, height := range []int{-1, 0, 1, highest, highest + 1} {
			c.Height = height
			if e := Check(c); e != wantCheck(c) {
				t.Error(c, e)
			}
		}
	}
}

// TestCheckTwice holds that what one call kept is not there in the next one.
func TestCheckTwice(t *testing.T) {
	for range 3 {
		if e := Check(of(5, 62, 1, 63, 1)); e != api.OK {
			t.Error(e)
		}
		if e := Check(of(5, 0, 1)); e != api.OK {
			t.Error(e)
		}
	}
}

func TestOf(t *testing.T) {
	for _, r := range []struct {
		c   api.Commit
		at  int
		sig uint64
		is  bool
	}{
		{of(5, 0, 7, 3, 9), 0, 7, true},
		{of(5, 0, 7, 3, 9), 1, 0, false},
		{of(5, 0, 7, 3, 9), 4, 0, false},
		{of(5, 0, 7, 3, 9), -1, 0, false},
		{of(5, 0, 7, 3, 9), 63, 0, false},
		{of(5, 0, 7, 3, 9), math.MaxInt, 0, false},
		{of(5, 3, 0), 3, 0, true},
		{of(5, 3, -1), 3, math.MaxUint64, true},
		{some(64, 0), 63, 1063, true},
		{some(64, 0), 0, 1000, true},
		// Commits that are not valid: by height, number, places beyond the range, places that fall or are there twice.
		{of(0, 3, 9), 3, 9, true},
		{of(-1), 3, 0, false},
		{api.Commit{}, 0, 0, false},
		{some(1000, 0), 999, 1999, true},
		{of(5, -1, 4), -1, 4, true},
		{of(5, 64, 4), 64, 4, true},
		{of(5, math.MinInt, 4), math.MinInt, 4, true},
		{of(5, 3, 1, 2, 4), 2, 4, true},
		{of(5, 3, 1, 2, 4), 3, 1, true},
		{of(5, 3, 1, 3, 2), 3, 1, true},
		{of(5, 9, 1, 3, 2, 9, 3, 3, 4), 3, 2, true},
		{of(5, 9, 1, 3, 0, 9, 3, 3, 4), 3, 0, true},
		{of(5, 9, 5, 8, 4, 7, 3, 6, 2), 6, 2, true},
	} {
		is := roomy(r.c)
		if sig, found := Of(is, r.at); sig != r.sig || found != r.is {
			t.Error(r, sig, found)
		}
		wantSame(t, is, roomy(r.c))
	}
}

// TestOfAll holds all short lists, valid or not, against a look at each vote, and that nobody looks behind a list.
func TestOfAll(t *testing.T) {
	places := []int{-1, 0, 1, 64}
	for _, c := range lists(4, places, []int{0, 7}) {
		for _, at := range places {
			want, has := uint64(0), false
			for i := len(c.Votes) - 1; i >= 0; i-- {
				if c.Votes[i].At == at {
					want, has = c.Votes[i].Sig, true
				}
			}
			if sig, is := Of(roomy(c), at); sig != want || is != has {
				t.Error(c, at, sig, is)
			}
		}
	}
}

// keys makes validators whose keys are letters from a on, of power 0.
func keys(n int) []api.Validator {
	var l []api.Validator
	for i := range n {
		l = append(l, api.Validator{Key: api.Key{byte('a' + i), 1, 2, byte(i)}})
	}
	return l
}

// wantVoters holds one call of Who, with validators behind the list, and that no argument is changed.
func wantVoters(t *testing.T, c api.Commit, l []api.Validator, want []api.Key, err api.Errno) {
	t.Helper()
	is := roomy(c)
	all := append(slices.Clone(l), keys(3)...)
	was := slices.Clone(all)
	got, e := Who(is, all[:len(l)])
	if !slices.Equal(got, want) || e != err {
		t.Errorf("%v of %v: %v, %v, not %v, %v", c, l, got, e, want, err)
	}
	wantSame(t, is, roomy(c))
	if !slices.Equal(all, was) {
		t.Errorf("%v was changed to %v", was, all)
	}
}

// TestWhoExamples are the chapter's.
func TestWhoExamples(t *testing.T) {
	l := []api.Validator{{Key: api.Key{'a'}}, {Key: api.Key{'b'}}, {Key: api.Key{'c'}}}
	wantVoters(t, of(5, 0, 7, 2, 9), l, []api.Key{{'a'}, {'c'}}, api.OK)
	wantVoters(t, of(5, 3, 9), l, nil, api.ErrRange)
}

func TestWhoEdges(t *testing.T) {
	wantVoters(t, of(5), nil, nil, api.OK)
	wantVoters(t, of(5), keys(3), nil, api.OK)
	wantVoters(t, of(5, 0, 1), nil, nil, api.ErrRange)
	wantVoters(t, of(5, 0, 1), keys(1), []api.Key{{'a', 1, 2, 0}}, api.OK)
	wantVoters(t, of(5, 1, 1), keys(1), nil, api.ErrRange)
	wantVoters(t, of(5, 0, 1, 1, 1), keys(1), nil, api.ErrRange)
	wantVoters(t, of(5, 2, 1), keys(3), []api.Key{{'c', 1, 2, 2}}, api.OK)
	wantVoters(t, of(5, 63, 1), keys(63), nil, api.ErrRange)
	wantVoters(t, of(5, 63, 1), keys(64), []api.Key{keys(64)[63].Key}, api.OK)
	// A list may be no set: longer than one, or with one key again and again.
	wantVoters(t, of(5, 63, 1), keys(200), []api.Key{keys(64)[63].Key}, api.OK)
	wantVoters(t, of(5, 64, 1), keys(200), nil, api.ErrRange)
	wantVoters(t, of(5, 0, 1, 2, 1), make([]api.Validator, 3), []api.Key{{}, {}}, api.OK)
	wantVoters(t, some(65, 0), nil, nil, api.ErrLong)
	// What is not valid is told ahead of a place that the list has not.
	wantVoters(t, of(5, 9, 1, 9, 1), nil, nil, api.ErrOrder)
}

// TestWhoAll holds many commits, valid or not, with lists of each length.
func TestWhoAll(t *testing.T) {
	all := lists(3, []int{-1, 0, 1, 2, 63, 64}, []int{7})
	for _, r := range edges() {
		all = append(all, r.c)
	}
	all = append(all, some(63, 0), some(63, 1), some(7, 20))
	for _, c := range all {
		for _, n := range []int{0, 1, 2, 3, 20, 26, 27, 62, 63, 64, 65, 100} {
			want, err := wantWho(c, keys(n))
			wantVoters(t, c, keys(n), want, err)
		}
	}
}
