package block

import (
	"math"
	"slices"
	"testing"

	"landfall/api"
	"landfall/header"
	"landfall/vals"
)

// TestMakeExamples are the chapter's.
func TestMakeExamples(t *testing.T) {
	if b, e := Make(plain(), nil); e != api.ErrShort || !equal(b, api.Block{}) {
		t.Error(b, e)
	}
	if b, e := Make(api.Header{Chain: "A", Height: 3, Time: 4}, two()); e != api.ErrForm || !equal(b, api.Block{}) {
		t.Error(b, e)
	}
	m, e := Make(plain(), two())
	if e != api.OK || !Same(m, m) {
		t.Error(m, e)
	}
	if !equal(m, chapter()) {
		t.Error(m)
	}
	voted := m
	voted.Commit.Votes = []api.Vote{{At: 1, Sig: 9}}
	if Same(m, voted) || Same(voted, m) {
		t.Error("Same")
	}
}

// TestMake holds what is made against blocks that were put together by other means; what the header says of a set before does not count.
func TestMake(t *testing.T) {
	for _, want := range links() {
		want.Commit.Votes = nil
		for _, told := range []api.Hash{{}, want.H.Vals, {1, 2, 3}, greatest().App} {
			h := want.H
			h.Vals = told
			b, e := Make(h, want.Vals)
			if e != api.OK || !equal(b, want) || b.Commit.Height != h.Height || len(b.Commit.Votes) != 0 {
				t.Errorf("%v, %v, not %v", b, e, want)
			}
		}
	}
}

// TestMadeIsLinked holds P9.4: with any votes for its places what is made is linked, with others it is not.
func TestMadeIsLinked(t *testing.T) {
	for n := 1; n <= 5; n++ {
		made, e := Make(greatest(), some(n))
		if e != api.OK {
			t.Fatal(e)
		}
		for mask := range 1 << 6 {
			b := made
			want := api.OK
			for at := range 6 {
				if mask>>at&1 == 1 {
					b.Commit.Votes = append(b.Commit.Votes, votes(at)...)
				}
			}
			if mask>>n != 0 {
				want = api.ErrRange
			}
			if e := Linked(b); e != want {
				t.Errorf("%d, %b: %v", n, mask, e)
			}
		}
	}
	made, e := Make(plain(), some(64))
	if e != api.OK || Linked(made) != api.OK {
		t.Error(e)
	}
	if made.Commit.Votes = votes(upTo(64)...); Linked(made) != api.OK {
		t.Error(Linked(made))
	}
}

// TestMakeOrder puts together each choice of what is wrong with header and validators: the validators count first.
func TestMakeOrder(t *testing.T) {
	for _, h := range wrongHeaders() {
		for _, l := range wrongVals() {
			b := chapter()
			h.make(&b)
			l.make(&b)
			want := firstOf(l.want, h.want)
			got, e := Make(b.H, b.Vals)
			if e != want || e != api.OK && !equal(got, api.Block{}) {
				t.Errorf("%v: %v, not %v", b, e, want)
			}
			if (e == api.OK) != (Linked(got) == api.OK) {
				t.Error(got, e)
			}
		}
	}
}

// TestMakeEdges gives numbers at the edges of what a header and a validator have.
func TestMakeEdges(t *testing.T) {
	edges := []int{math.MinInt, -1, 0, 1, 2, highest - 1, highest, highest + 1, latest, latest + 1, strong, strong + 1, math.MaxInt}
	for _, height := range edges {
		for _, time := range edges {
			for _, power := range edges {
				h, l := api.Header{Chain: "sea", Height: height, Time: time}, []api.Validator{{Key: api.Key{1}, Power: power}}
				want := firstOf(vals.Check(l), header.Check(h))
				if b, e := Make(h, l); e != want || (e == api.OK) != (Linked(b) == api.OK) {
					t.Errorf("%v, %v: %v, not %v", h, l, e, want)
				}
			}
		}
	}
}

// TestMadeIsNew holds that what is made shares no memory with the list, that the list is not changed, and what is behind it not looked at.
func TestMadeIsNew(t *testing.T) {
	is, was := roomy(chapter()), roomy(chapter())
	one, e := Make(plain(), is.Vals)
	two, f := Make(plain(), is.Vals)
	if e != api.OK || f != api.OK || !equal(one, chapter()) {
		t.Fatal(one, e, f)
	}
	wantSame(t, is, was)
	if behind := one.Vals[len(one.Vals):cap(one.Vals)]; slices.ContainsFunc(behind, func(v api.Validator) bool { return v != api.Validator{} }) {
		t.Error("behind the list:", behind)
	}
	spoil(one)
	wantSame(t, is, was)
	if !equal(two, chapter()) {
		t.Error(two)
	}
	spoil(is)
	if !equal(two, chapter()) {
		t.Error(two)
	}
}
