package vals

import (
	"math"
	"slices"
	"testing"

	"landfall/api"
)

// wantChanged holds one change of a set: its result, and that no argument is changed.
func wantChanged(t *testing.T, l, changes, want []api.Validator, err api.Errno) {
	t.Helper()
	is, by := roomy(l), roomy(changes)
	if got, e := Change(is, by); e != err || !slices.Equal(got, want) {
		t.Errorf("%v by %v: %v, %v, not %v, %v", l, changes, got, e, want, err)
	}
	wantSame(t, is, roomy(l))
	wantSame(t, by, roomy(changes))
}

// TestChangeExamples are the chapter's.
func TestChangeExamples(t *testing.T) {
	wantChanged(t, of(1, 5, 2, 7), of(1, 0, 3, 2), of(2, 7, 3, 2), api.OK)
	wantChanged(t, of(1, 5), of(1, 0), nil, api.ErrShort)
	wantChanged(t, of(1, 5), of(2, 0), nil, api.ErrUnknown)
	wantChanged(t, of(1, 5), of(1, 9), of(1, 9), api.OK)
	wantChanged(t, of(1, 5), of(3, 1, 2, 1), nil, api.ErrOrder)
}

func TestChangeEdges(t *testing.T) {
	l := of(10, 1, 20, 2, 30, 3)
	for _, r := range []struct {
		changes, want []api.Validator
		err           api.Errno
	}{
		{nil, l, api.OK},
		{[]api.Validator{}, l, api.OK},
		{l, l, api.OK},
		// One key: at both ends of the set, within it, beyond it.
		{of(10, 0), of(20, 2, 30, 3), api.OK},
		{of(20, 0), of(10, 1, 30, 3), api.OK},
		{of(30, 0), of(10, 1, 20, 2), api.OK},
		{of(10, 9), of(10, 9, 20, 2, 30, 3), api.OK},
		{of(20, 9), of(10, 1, 20, 9, 30, 3), api.OK},
		{of(30, 9), of(10, 1, 20, 2, 30, 9), api.OK},
		{of(9, 9), of(9, 9, 10, 1, 20, 2, 30, 3), api.OK},
		{of(11, 9), of(10, 1, 11, 9, 20, 2, 30, 3), api.OK},
		{of(29, 9), of(10, 1, 20, 2, 29, 9, 30, 3), api.OK},
		{of(31, 9), of(10, 1, 20, 2, 30, 3, 31, 9), api.OK},
		{of(0, 1), of(0, 1, 10, 1, 20, 2, 30, 3), api.OK},
		{of(last, 1), of(10, 1, 20, 2, 30, 3, last, 1), api.OK},
		// Several at once.
		{of(0, 4, 10, 0, 20, 8, 25, 6, 30, 0, last, 5), of(0, 4, 20, 8, 25, 6, last, 5), api.OK},
		{of(10, 0, 20, 0), of(30, 3), api.OK},
		{of(10, 0, 20, 0, 30, 0, 40, 4), of(40, 4), api.OK},
		{of(5, 4, 10, 0, 20, 0, 30, 0), of(5, 4), api.OK},
		// Powers.
		{of(20, most), of(10, 1, 20, most, 30, 3), api.OK},
		{of(20, most+1), nil, api.ErrRange},
		{of(40, most+1), nil, api.ErrRange},
		{of(20, -1), nil, api.ErrRange},
		{of(40, -1), nil, api.ErrRange},
		{of(40, math.MinInt), nil, api.ErrRange},
		{of(40, math.MaxInt), nil, api.ErrRange},
		// Who is not there can't be removed, not even if a change brings them.
		{of(0, 0), nil, api.ErrUnknown},
		{of(15, 0), nil, api.ErrUnknown},
		{of(last, 0), nil, api.ErrUnknown},
		{of(0x14000000, 0), nil, api.ErrUnknown},
		{of(40, 1, 40, 0), nil, api.ErrOrder},
		// Keys.
		{of(10, 0, 10, 1), nil, api.ErrOrder},
		{of(20, 1, 10, 1), nil, api.ErrOrder},
		{of(0, 1, 0, 1), nil, api.ErrOrder},
		{of(0x80000000, 1, 0x7f000000, 1), nil, api.ErrOrder},
		{of(0x100, 1, 0xff, 1), nil, api.ErrOrder},
		// None left.
		{of(10, 0, 20, 0, 30, 0), nil, api.ErrShort},
		// Of two errors the first change's is told; of one change's that of its key, then that of its power.
		{of(20, 1, 10, -1), nil, api.ErrOrder},
		{of(20, 1, 15, 0), nil, api.ErrOrder},
		{of(20, -1, 10, 1), nil, api.ErrRange},
		{of(15, 0, 10, 1), nil, api.ErrUnknown},
		{of(15, 0, 16, -1), nil, api.ErrUnknown},
		{of(15, -1, 16, 0), nil, api.ErrRange},
		{of(10, 0, 20, 0, 30, 0, 40, 0), nil, api.ErrUnknown},
		{of(10, 0, 20, 0, 30, 0, 30, 1), nil, api.ErrOrder},
	} {
		wantChanged(t, l, r.changes, r.want, r.err)
	}
}

// TestChangeOfNoSet tells the error of Check, whatever the changes are.
func TestChangeOfNoSet(t *testing.T) {
	for _, r := range edges() {
		if r.want == api.OK {
			continue
		}
		for _, changes := range [][]api.Validator{nil, of(1, 1), of(1, 0), of(7, 0), of(1, -1), of(2, 1, 1, 1), some(100, 1, 1)} {
			wantChanged(t, r.l, changes, nil, r.want)
		}
	}
}

// TestChangeFull brings sets to 64, and beyond.
func TestChangeFull(t *testing.T) {
	full := some(64, 100, 10)
	wantChanged(t, full, nil, full, api.OK)
	wantChanged(t, full[:63], full[63:], full, api.OK)
	wantChanged(t, full[1:], full[:1], full, api.OK)
	wantChanged(t, full[:1], full, full, api.OK)
	wantChanged(t, full, full, full, api.OK)
	for _, k := range []int{0, 99, 101, 405, 731, last} {
		wantChanged(t, full, of(k, 1), nil, api.ErrFull)
	}
	// Who leaves makes room for who comes, be it before them or behind them.
	wantChanged(t, full, of(0, 1, 730, 0), slices.Concat(of(0, 1), full[:63]), api.OK)
	wantChanged(t, full, of(100, 0, last, 1), slices.Concat(full[1:], of(last, 1)), api.OK)
	wantChanged(t, full, of(0, 1, 730, 0, 731, 1), nil, api.ErrFull)
	// As many changes as are asked for: 64 leave, and 64 come.
	var all []api.Validator
	for _, v := range full {
		all = append(all, of(numberOf(v.Key), 0, numberOf(v.Key)+5, 3)...)
	}
	want := some(64, 105, 10)
	for i := range want {
		want[i].Power = 3
	}
	wantChanged(t, full, all, want, api.OK)
	wantChanged(t, full, append(slices.Clone(all), of(last, 1)...), nil, api.ErrFull)
	// An error of a change counts before that there would be too many.
	many := some(1000, 1, 1)
	wantChanged(t, of(1, 1), many, nil, api.ErrFull)
	wantChanged(t, of(1, 1), append(many, of(1000, 1)...), nil, api.ErrOrder)
	wantChanged(t, of(1, 1), append(many, of(1001, -1)...), nil, api.ErrRange)
	wantChanged(t, of(1, 1), append(many, of(1001, 0)...), nil, api.ErrUnknown)
}

// TestChangeAll holds short sets and short changes against a map from keys to powers.
func TestChangeAll(t *testing.T) {
	changes := lists(3, []int{0, 1, 256, last}, []int{-1, 0, 1, most})
	for _, l := range lists(3, []int{0, 1, 256}, []int{2, most}) {
		for _, c := range changes {
			want, err := wantChange(l, c)
			wantChanged(t, l, c, want, err)
		}
	}
}

// difference tells the changes by which one set becomes another one.
func difference(from, to []api.Validator) []api.Validator {
	var out []api.Validator
	for _, v := range from {
		if !slices.ContainsFunc(to, func(w api.Validator) bool { return w.Key == v.Key }) {
			out = append(out, api.Validator{Key: v.Key})
		}
	}
	for _, v := range to {
		if !slices.Contains(from, v) {
			out = append(out, v)
		}
	}
	slices.SortFunc(out, func(a, b api.Validator) int { return numberOf(a.Key) - numberOf(b.Key) })
	return out
}

// TestChangeByDifference holds the first half of P5.4.
func TestChangeByDifference(t *testing.T) {
	all := append(sets(), some(64, 100, 10), some(64, 105, 10), some(64, 100, 5), some(10, 90, 1))
	for _, from := range all {
		for _, to := range all {
			wantChanged(t, from, difference(from, to), to, api.OK)
		}
	}
}

// TestOrderOfChanges holds the second half of P5.4: changes of different keys, one after the other in either order, or both at once.
func TestOrderOfChanges(t *testing.T) {
	l := of(10, 1, 20, 2, 30, 3)
	singles := lists(1, []int{0, 10, 15, 20, 30, last}, []int{0, 1, most})[1:]
	done := 0
	for _, a := range singles {
		for _, b := range singles {
			if numberOf(a[0].Key) >= numberOf(b[0].Key) {
				continue
			}
			onlyA, e := Change(l, a)
			onlyB, f := Change(l, b)
			if e != api.OK || f != api.OK {
				continue
			}
			done++
			both, _ := wantChange(l, slices.Concat(a, b))
			wantChanged(t, l, slices.Concat(a, b), both, api.OK)
			wantChanged(t, onlyA, b, both, api.OK)
			wantChanged(t, onlyB, a, both, api.OK)
		}
	}
	if done < 50 {
		t.Error("too few are changed:", done)
	}
}

// TestChangedIsNew holds that a changed set shares no memory with an argument.
func TestChangedIsNew(t *testing.T) {
	for _, changes := range [][]api.Validator{nil, {}, of(10, 0), of(30, 9), of(40, 4)} {
		l, by := roomy(of(10, 1, 20, 2, 30, 3)), roomy(changes)
		want, _ := wantChange(l, by)
		got, _ := Change(l, by)
		spoil(l)
		spoil(by)
		if !slices.Equal(got, want) {
			t.Error(changes, got, want)
		}
		l, by = roomy(of(10, 1, 20, 2, 30, 3)), roomy(changes)
		got, _ = Change(l, by)
		spoil(got)
		wantSame(t, l, roomy(of(10, 1, 20, 2, 30, 3)))
		wantSame(t, by, roomy(changes))
	}
	l := of(10, 1, 20, 2)
	if got, e := Change(l, l); !slices.Equal(got, of(10, 1, 20, 2)) || e != api.OK {
		t.Error(got, e)
	}
}

// TestMergedStops makes sure that whoever goes through both lists may leave, and begin anew.
func TestMergedStops(t *testing.T) {
	both := merged(of(1, 1, 3, 3), of(2, 2, 3, 0))
	for v := range both {
		if v != of(1, 1)[0] {
			t.Error(v)
		}
		break
	}
	if got := slices.Collect(both); !slices.Equal(got, of(1, 1, 2, 2, 3, 0)) {
		t.Error(got)
	}
}
