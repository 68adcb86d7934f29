package commit

import (
	"cmp"
	"slices"

	"landfall/api"
)

// Add tells a commit with one vote more.
func Add(c api.Commit, v api.Vote) (api.Commit, api.Errno) {
	if e := Check(c); e != api.OK {
		return api.Commit{}, e
	}
	if !isPlace(v.At) {
		return api.Commit{}, api.ErrRange
	}
	at, is := find(c.Votes, v.At)
	if is {
		return api.Commit{}, api.ErrDouble
	}
	c.Votes = slices.Insert(slices.Clone(c.Votes), at, v)
	return c, api.OK
}

// Join tells a commit with the votes of two, which are for the same header.
func Join(a, b api.Commit) (api.Commit, api.Errno) {
	for _, c := range [...]api.Commit{a, b} {
		if e := Check(c); e != api.OK {
			return api.Commit{}, e
		}
	}
	if a.Height != b.Height || a.Hash != b.Hash {
		return api.Commit{}, api.ErrOrder
	}
	votes, e := union(a.Votes, b.Votes)
	if e != api.OK {
		return api.Commit{}, e
	}
	return api.Commit{Height: a.Height, Hash: a.Hash, Votes: votes}, api.OK
}

// union tells all votes of some lists, in order, or ErrDouble if two of them are for one place and differ.
func union(lists ...[]api.Vote) ([]api.Vote, api.Errno) {
	var all []api.Vote
	e := api.OK
joining:
	for _, l := range lists {
		for _, v := range l {
			at, is := find(all, v.At)
			switch {
			case !is:
				all = slices.Insert(all, at, v)
			case all[at].Sig != v.Sig:
				all, e = nil, api.ErrDouble
				break joining
			}
		}
	}
	return all, e
}

// find tells where a place's vote stands among votes in order, or where it would stand; and whether it is there.
func find(votes []api.Vote, place int) (int, bool) {
	return slices.BinarySearchFunc(votes, place, func(v api.Vote, place int) int { return cmp.Compare(v.At, place) })
}
