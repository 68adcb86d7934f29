package tally

import (
	"iter"
	"slices"

	"landfall/api"
	"landfall/sigs"
)

// count is a block whose votes are counted, and the table that tells which of them hold.
type count struct {
	block api.Block
	table *sigs.Table
}

// holds tells whether a vote of the block does.
func (c *count) holds(v api.Vote) bool {
	if v.At < 0 || v.At >= len(c.block.Vals) {
		return false
	}
	return c.table.Has(api.Sig{Key: c.block.Vals[v.At].Key, Hash: c.block.Commit.Hash, Sig: v.Sig})
}

// held passes on only the votes that hold.
func (c *count) held(yield func(api.Vote) bool) {
	for _, v := range c.block.Commit.Votes {
		if c.holds(v) && !yield(v) {
			return
		}
	}
}

// indices tells which of the block's validators signed. As the block need not be valid, its votes may come in any order, and many for one place.
func (c *count) indices() []int {
	var l []int
	for v := range c.held {
		l = append(l, v.At)
	}
	slices.Sort(l)
	return slices.Compact(l)
}

// signers yields the block's validators that signed, each once.
func (c *count) signers() iter.Seq[api.Validator] {
	return func(yield func(api.Validator) bool) {
		for _, at := range c.indices() {
			if !yield(c.block.Vals[at]) {
				return
			}
		}
	}
}

// keys tells whose keys signed.
func (c *count) keys() map[api.Key]struct{} {
	who := map[api.Key]struct{}{}
	for v := range c.held {
		who[c.block.Vals[v.At].Key] = struct{}{}
	}
	return who
}

// among yields those of a set who have one of the keys; a set may have a key more than once.
func among(set []api.Validator, who map[api.Key]struct{}) iter.Seq[api.Validator] {
	return func(yield func(api.Validator) bool) {
		for _, v := range set {
			if _, is := who[v.Key]; is && !yield(v) {
				return
			}
		}
	}
}
