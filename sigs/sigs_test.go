package sigs

import (
	"math"
	"slices"
	"testing"

	"landfall/api"
)

// TestExamples are the chapter's.
func TestExamples(t *testing.T) {
	a, b, c := sig(1, 0, 7), sig(1, 0, 5), sig(2, 0, 1)
	x, e := New(2)
	if e != api.OK {
		t.Fatal(e)
	}
	for _, r := range []struct {
		s    api.Sig
		want api.Errno
	}{{a, api.OK}, {a, api.ErrDouble}, {b, api.OK}, {c, api.ErrFull}} {
		if e := x.Add(r.s); e != r.want {
			t.Error(r, e)
		}
	}
	if !x.Has(b) || x.Has(c) || x.Len() != 2 {
		t.Error(x.Has(b), x.Has(c), x.Len())
	}
	if l := x.List(); !slices.Equal(l, []api.Sig{b, a}) {
		t.Error(l)
	}
	if w := x.Who(api.Hash{}); !slices.Equal(w, []api.Key{{3: 1}}) {
		t.Error(w)
	}
	if b, e := table(t, 5, nil).Encode(); string(b) != "\x00" || e != api.OK {
		t.Error(b, e)
	}
}

// TestNew makes tables of each size at the edges, and fills them.
func TestNew(t *testing.T) {
	for _, n := range []int{math.MinInt, -4096, -1, mostSigs + 1, mostSigs + 2, 65536, math.MaxInt} {
		if x, e := New(n); x != nil || e != api.ErrRange {
			t.Error(n, x, e)
		}
	}
	all := many(mostSigs + 1)
	for _, n := range []int{0, 1, 2, 3, 255, 256, mostSigs - 1, mostSigs} {
		x := table(t, n, nil)
		wantTable(t, x, nil)
		for _, s := range all[:n] {
			if e := x.Add(s); e != api.OK {
				t.Fatal(n, s, e)
			}
		}
		if e := x.Add(all[n]); e != api.ErrFull {
			t.Error(n, e)
		}
		wantTable(t, x, all[:n])
	}
}

// TestFull adds to a full table what is there and what is not.
func TestFull(t *testing.T) {
	l := []api.Sig{sig(2, 1, 9), sig(1, 1, 9), sig(1, 2, 0)}
	x := table(t, 3, l)
	for range 3 {
		for _, s := range l {
			if e := x.Add(s); e != api.ErrDouble {
				t.Error(s, e)
			}
		}
		for _, s := range []api.Sig{{}, sig(1, 1, 8), sig(1, 2, 9), sig(2, 2, 9), sig(2, 1, 0)} {
			if e := x.Add(s); e != api.ErrFull || x.Has(s) {
				t.Error(s, e)
			}
		}
		wantTable(t, x, l)
	}
	none := table(t, 0, nil)
	for _, s := range append(l, api.Sig{}) {
		if e := none.Add(s); e != api.ErrFull || none.Has(s) {
			t.Error(s, e)
		}
	}
	wantTable(t, none, nil)
}

// TestNought holds that the signature that is all zero is one like another.
func TestNought(t *testing.T) {
	x := table(t, 2, nil)
	if x.Has(api.Sig{}) {
		t.Error("nobody added it")
	}
	if e := x.Add(api.Sig{}); e != api.OK {
		t.Error(e)
	}
	if e := x.Add(api.Sig{}); e != api.ErrDouble {
		t.Error(e)
	}
	wantTable(t, x, []api.Sig{{}})
}

// TestNeighbours holds that signatures which differ in one place are two, and their order.
func TestNeighbours(t *testing.T) {
	all := neighbours()
	for _, a := range all {
		for _, b := range all {
			if form(a) == form(b) {
				continue
			}
			x := table(t, 2, []api.Sig{a})
			if x.Has(b) {
				t.Error("nobody added it:", b)
			}
			if e := x.Add(b); e != api.OK {
				t.Error(b, e)
			}
			want := ordered([]api.Sig{a, b})
			if got := x.List(); !slices.Equal(got, want) {
				t.Errorf("%v, not %v", got, want)
			}
		}
	}
	wantTable(t, table(t, mostSigs, all), all)
	slices.Reverse(all)
	wantTable(t, table(t, mostSigs, all), all)
}

// TestOrderOfParts holds that a key counts ahead of a hash, and that ahead of the number.
func TestOrderOfParts(t *testing.T) {
	var want []api.Sig
	for _, k := range []byte{0, 1, 127, 128, 255} {
		for _, h := range []byte{0, 1, 127, 128, 255} {
			for _, n := range []uint64{0, 1, 1<<63 - 1, 1 << 63, math.MaxUint64} {
				want = append(want, sig(k, h, n))
			}
		}
	}
	turned := slices.Clone(want)
	slices.Reverse(turned)
	for _, l := range [][]api.Sig{want, turned} {
		if got := table(t, 200, l).List(); !slices.Equal(got, want) {
			t.Error(got)
		}
	}
	// The first byte counts ahead of the last one, in a key and in a hash.
	first, last := api.Sig{Key: api.Key{0: 1}}, api.Sig{Key: api.Key{3: 2}}
	if got := table(t, 2, []api.Sig{first, last}).List(); !slices.Equal(got, []api.Sig{last, first}) {
		t.Error(got)
	}
	first, last = api.Sig{Hash: api.Hash{0: 1}}, api.Sig{Hash: api.Hash{31: 2}}
	if got := table(t, 2, []api.Sig{first, last}).List(); !slices.Equal(got, []api.Sig{last, first}) {
		t.Error(got)
	}
}

// TestOrderOfAdding holds P8.3: it does not matter.
func TestOrderOfAdding(t *testing.T) {
	l := []api.Sig{sig(1, 1, 1), sig(1, 1, 2), sig(2, 1, 1), sig(1, 2, 1<<63), {}, sig(200, 1, 0)}
	for _, o := range orders(l) {
		x := table(t, 6, o)
		wantTable(t, x, l)
		if got := x.Who(api.Hash{31: 1}); !slices.Equal(got, []api.Key{{3: 1}, {3: 2}, {3: 200}}) {
			t.Error(o, got)
		}
	}
}

func TestWho(t *testing.T) {
	x := table(t, 20, []api.Sig{
		sig(7, 1, 9), sig(7, 1, 8), sig(7, 1, 0), sig(3, 1, 1<<63), sig(200, 1, 1),
		sig(7, 2, 9), sig(4, 3, 9), sig(4, 3, 8), sig(7, 200, 9), sig(0, 0, 0),
		{Key: api.Key{0: 5}, Hash: api.Hash{31: 1}}, {Key: api.Key{0: 6}, Hash: api.Hash{0: 1}},
	})
	for _, r := range []struct {
		h    api.Hash
		want []api.Key
	}{
		{api.Hash{31: 1}, []api.Key{{3: 3}, {3: 7}, {3: 200}, {0: 5}}},
		{api.Hash{31: 2}, []api.Key{{3: 7}}},
		{api.Hash{31: 3}, []api.Key{{3: 4}}},
		{api.Hash{31: 200}, []api.Key{{3: 7}}},
		{api.Hash{0: 1}, []api.Key{{0: 6}}},
		{api.Hash{}, []api.Key{{}}},
		{api.Hash{31: 4}, nil},
		{api.Hash{0: 2}, nil},
		{api.Hash{30: 1, 31: 1}, nil},
	} {
		for range 3 {
			if got := x.Who(r.h); !slices.Equal(got, r.want) {
				t.Errorf("%v: %v, not %v", r.h, got, r.want)
			}
		}
	}
	if got := table(t, 5, nil).Who(api.Hash{}); len(got) != 0 {
		t.Error(got)
	}
}

// TestWhoMany asks in a full table, where each key has more than one signature, and where each has one.
func TestWhoMany(t *testing.T) {
	all := many(mostSigs)
	x := table(t, mostSigs, all)
	asked := map[api.Hash]int{}
	for _, s := range all {
		if asked[s.Hash]++; asked[s.Hash] > 1 {
			continue
		}
		if got, want := x.Who(s.Hash), whoOf(all, s.Hash); !slices.Equal(got, want) {
			t.Errorf("%v: %v, not %v", s.Hash, got, want)
		}
	}
	var one []api.Sig
	for i := range mostSigs {
		one = append(one, api.Sig{Key: api.Key{byte(i), byte(i >> 8)}, Sig: 1})
	}
	if got := table(t, mostSigs, one).Who(api.Hash{}); !slices.Equal(got, whoOf(one, api.Hash{})) {
		t.Error(len(got))
	}
}

// TestInvalid makes each call on nil, and on tables that neither New nor Decode returned.
func TestInvalid(t *testing.T) {
	s := sig(1, 2, 3)
	for i, x := range invalids(t) {
		for range 2 {
			if e := x.Add(s); e != api.ErrNil {
				t.Error(i, e)
			}
			if e := x.Add(api.Sig{}); e != api.ErrNil {
				t.Error(i, e)
			}
			if x.Has(s) || x.Has(api.Sig{}) || x.Len() != 0 {
				t.Error(i, x.Has(s), x.Len())
			}
			if k, l := x.Who(s.Hash), x.List(); len(k) != 0 || len(l) != 0 {
				t.Error(i, k, l)
			}
			if b, e := x.Encode(); len(b) != 0 || e != api.ErrNil {
				t.Error(i, b, e)
			}
		}
	}
}

// TestCopied holds that what is done to a table's copy does nothing to the table.
func TestCopied(t *testing.T) {
	l := []api.Sig{sig(1, 2, 3)}
	x := table(t, 5, l)
	copied := *x
	copied.Add(sig(2, 2, 2))
	wantTable(t, x, l)
}

// TestApart holds that tables have nothing in common.
func TestApart(t *testing.T) {
	x, y := table(t, 3, []api.Sig{sig(1, 1, 1)}), table(t, 1, nil)
	if y.Has(sig(1, 1, 1)) || y.Add(sig(2, 2, 2)) != api.OK || x.Has(sig(2, 2, 2)) {
		t.Error(x.List(), y.List())
	}
	if x.Add(sig(2, 2, 2)) != api.OK || y.Add(sig(1, 1, 1)) != api.ErrFull {
		t.Error(x.List(), y.List())
	}
	wantTable(t, x, []api.Sig{sig(1, 1, 1), sig(2, 2, 2)})
	wantTable(t, y, []api.Sig{sig(2, 2, 2)})
}

// TestAnswersAreNew writes over what was told, and over its spare capacity: the table, and what it told ahead of that, stay as they were.
func TestAnswersAreNew(t *testing.T) {
	l := []api.Sig{sig(1, 1, 1), sig(1, 1, 2), sig(2, 1, 1), sig(3, 2, 1)}
	x := table(t, 5, l)
	list, who := x.List(), x.Who(api.Hash{31: 1})
	keep, kept := x.List(), x.Who(api.Hash{31: 1})
	list, who = list[:cap(list)], who[:cap(who)]
	for i := range list {
		list[i] = api.Sig{Sig: poor}
	}
	for i := range who {
		who[i] = api.Key{9, 9, 9, 9}
	}
	b, _ := x.Encode()
	bytes, _ := x.Encode()
	clear(b[:cap(b)])
	if !slices.Equal(keep, l) || !slices.Equal(kept, []api.Key{{3: 1}, {3: 2}}) || string(bytes) != string(bytesOf(l)) {
		t.Error(keep, kept, bytes)
	}
	wantTable(t, x, l)
	// Neither is what was told changed by what is added.
	if e := x.Add(api.Sig{}); e != api.OK {
		t.Error(e)
	}
	if !slices.Equal(keep, l) || string(bytes) != string(bytesOf(l)) {
		t.Error(keep, bytes)
	}
	wantTable(t, x, append(l, api.Sig{}))
}

// TestMany makes calls without a rule, and holds each against a list.
func TestMany(t *testing.T) {
	c := some()
	for range 300 {
		most := c.below(12)
		x := table(t, most, nil)
		var l []api.Sig
		for range 40 {
			s := sig(byte(c.below(3)*100), byte(c.below(3)*100), uint64(c.below(3))<<62)
			want := api.OK
			switch {
			case slices.Contains(l, s):
				want = api.ErrDouble
			case len(l) == most:
				want = api.ErrFull
			}
			if x.Has(s) != (want == api.ErrDouble) {
				t.Error(s, x.Has(s))
			}
			if e := x.Add(s); e != want {
				t.Error(s, e, want)
			}
			if want == api.OK {
				l = append(l, s)
			}
			if x.Len() != len(l) {
				t.Error(x.Len(), len(l))
			}
		}
		wantTable(t, x, l)
	}
}
