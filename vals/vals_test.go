package vals

import (
	"math"
	"math/big"
	"slices"
	"testing"

	"landfall/api"
)

// TestCheckExamples are the chapter's.
func TestCheckExamples(t *testing.T) {
	for _, r := range []struct {
		l    []api.Validator
		want api.Errno
	}{
		{of(1, 5, 2, 7), api.OK},
		{nil, api.ErrShort},
		{of(2, 1, 1, 1), api.ErrOrder},
		{of(1, 1, 1, 1), api.ErrOrder},
		{of(1, 0), api.ErrRange},
		{some(65, 1, 1), api.ErrLong},
	} {
		if e := Check(r.l); e != r.want {
			t.Error(r, e)
		}
	}
	if sum, e := Total(of(1, 5, 2, 7)); sum != (api.Wide{Lo: 12}) || e != api.OK {
		t.Error(sum, e)
	}
	if at, is := Find(of(1, 5, 2, 7), keyOf(2)); at != 1 || !is {
		t.Error(at, is)
	}
}

// edges are lists at the edges of what a set is, and beyond.
func edges() []struct {
	l    []api.Validator
	want api.Errno
} {
	long, falls := some(65, 1, 1), some(64, 1, 1)
	long[0].Power = 0
	falls[63].Key = keyOf(63)
	return []struct {
		l    []api.Validator
		want api.Errno
	}{
		{[]api.Validator{}, api.ErrShort},
		{of(0, 1), api.OK}, // the least key is greater than none
		{of(0, 1, 0, 1), api.ErrOrder},
		{of(last, 1), api.OK},
		{of(0, most, last, most), api.OK},
		{of(last, 1, 0, 1), api.ErrOrder},
		{some(64, 0, 1), api.OK},
		{some(64, last-63, 1), api.OK},
		{some(65, 0, 1), api.ErrLong},
		{some(1000, 0, 1), api.ErrLong},
		{long, api.ErrLong},
		{slices.Repeat(of(1, 1), 65), api.ErrLong},
		{slices.Repeat(of(1, 1), 64), api.ErrOrder},
		{falls, api.ErrOrder},
		{of(1, -1), api.ErrRange},
		{of(1, 1), api.OK},
		{of(1, most-1), api.OK},
		{of(1, most), api.OK},
		{of(1, most+1), api.ErrRange},
		{of(1, math.MaxInt), api.ErrRange},
		{of(1, math.MinInt), api.ErrRange},
		{of(1, 1, 2, 0), api.ErrRange},
		{of(1, 1, 2, most+1), api.ErrRange},
		// Keys that differ in their first or last byte alone, and bytes that would be less than 0 if they had signs.
		{of(0x01020304, 1, 0x02020304, 1), api.OK},
		{of(0x02020304, 1, 0x01020304, 1), api.ErrOrder},
		{of(0x01020304, 1, 0x01020305, 1), api.OK},
		{of(0x01020305, 1, 0x01020304, 1), api.ErrOrder},
		{of(0x7f000000, 1, 0x80000000, 1), api.OK},
		{of(0x80000000, 1, 0x7f000000, 1), api.ErrOrder},
		{of(0x000000ff, 1, 0x00000100, 1), api.OK},
		{of(0x00000100, 1, 0x000000ff, 1), api.ErrOrder},
		{of(0x00ff0001, 1, 0x01000000, 1), api.OK},
		// Of two errors the one of the first validator is told, and of one validator's that of its key.
		{of(2, 0, 1, 1), api.ErrRange},
		{of(2, 1, 1, 0), api.ErrOrder},
		{of(2, 1, 2, most+1), api.ErrOrder},
		{of(2, 1, 1, 1, 3, 0), api.ErrOrder},
		{of(1, 1, 2, 0, 2, 1), api.ErrRange},
	}
}

func TestCheckEdges(t *testing.T) {
	for _, r := range edges() {
		if e := Check(r.l); e != r.want {
			t.Error(r, e)
		}
	}
}

// TestCheckAll holds all short lists of some keys and powers against the document's words.
func TestCheckAll(t *testing.T) {
	for _, l := range lists(3, []int{0, 1, 255, 256, last}, []int{-1, 0, 1, most, most + 1}) {
		is := roomy(l)
		if e, want := Check(is), wantCheck(l); e != want {
			t.Error(l, e, want)
		}
		wantSame(t, is, roomy(l))
	}
}

// TestTotal holds the sum, and that it tells each error that Check tells.
func TestTotal(t *testing.T) {
	full := some(64, 0, 1)
	for i := range full {
		full[i].Power = most
	}
	all := lists(3, []int{1, 2, 3}, []int{0, 1, 5, most - 1, most})
	all = append(all, full, full[:4], full[:5], full[:63], some(64, 7, 9))
	for _, r := range edges() {
		all = append(all, r.l)
	}
	for _, l := range all {
		is, want, wantErr := roomy(l), new(big.Int), wantCheck(l)
		for _, v := range l {
			if wantErr == api.OK {
				want.Add(want, big.NewInt(int64(v.Power)))
			}
		}
		sum, e := Total(is)
		got := new(big.Int).SetUint64(sum.Hi)
		got.Lsh(got, 64).Or(got, new(big.Int).SetUint64(sum.Lo))
		if e != wantErr || got.Cmp(want) != 0 {
			t.Error(l, sum, e, want, wantErr)
		}
		wantSame(t, is, roomy(l))
	}
	if sum, e := Total(full); sum != (api.Wide{Hi: 16}) || e != api.OK {
		t.Error(sum, e)
	}
}

func TestFind(t *testing.T) {
	for _, r := range []struct {
		l    []api.Validator
		key  int
		want int
		is   bool
	}{
		{nil, 0, 0, false},
		{of(1, 5), 0, 0, false},
		{of(1, 5), 2, 0, false},
		{of(1, 5), 1, 0, true},
		{of(0, 5), 0, 0, true},
		{of(1, 5, 2, 7), 1, 0, true},
		{of(1, 5, 2, 7), 2, 1, true},
		{of(1, 5, 3, 7), 2, 0, false},
		{of(0x01020304, 1), 0x02020304, 0, false},
		{of(0x01020304, 1), 0x01020305, 0, false},
		{some(64, 0, 3), 63 * 3, 63, true},
		{some(64, 0, 3), 63*3 + 1, 0, false},
		{some(64, 0, 3), 1, 0, false},
		// Lists that are not sets: keys fall, or are there twice; powers are wrong; there are too many.
		{of(2, 5, 1, 7), 1, 1, true},
		{of(2, 5, 1, 7), 2, 0, true},
		{of(3, 1, 1, 1, 2, 1), 2, 2, true},
		{of(1, 1, 2, 5, 2, 7), 2, 1, true},
		{of(2, 5, 1, 1, 2, 7), 2, 0, true},
		{of(2, 5, 2, 5), 2, 0, true},
		{of(1, 0, 2, -1), 2, 1, true},
		{some(1000, 0, 1), 999, 999, true},
		{slices.Repeat(of(9, 1), 100), 9, 0, true},
		{slices.Repeat(of(9, 1), 100), 8, 0, false},
	} {
		is := roomy(r.l)
		if at, found := Find(is, keyOf(r.key)); at != r.want || found != r.is {
			t.Error(r, at, found)
		}
		wantSame(t, is, roomy(r.l))
	}
}

// TestFindAll holds all short lists, sets and others, against a look at each place, and that nobody looks behind a list.
func TestFindAll(t *testing.T) {
	keys := []int{0, 1, 256, last}
	for _, l := range lists(4, keys, []int{0, 1}) {
		for _, k := range keys {
			want, has := 0, false
			for i := len(l) - 1; i >= 0; i-- {
				if numberOf(l[i].Key) == k {
					want, has = i, true
				}
			}
			if at, is := Find(roomy(l), keyOf(k)); at != want || is != has {
				t.Error(l, k, at, is)
			}
		}
	}
}
