package pace

import (
	"math"
	"slices"
	"testing"
)

const (
	least = math.SmallestNonzeroFloat64
	most  = math.MaxFloat64
)

var (
	minus = math.Copysign(0, -1)
	inf   = math.Inf(1)
)

// nans are forms that are not numbers: the one of all paces, with a sign, quiet ones, signalling ones, the least and the greatest ones.
func nans() []uint64 {
	return []uint64{
		0x7FF8000000000000,
		0x7FF8000000000001,
		0x7FFFFFFFFFFFFFFF,
		0x7FF0000000000001,
		0x7FF7FFFFFFFFFFFF,
		0x7FF0000080000000,
		0xFFF8000000000000,
		0xFFF8000000000001,
		0xFFFFFFFFFFFFFFFF,
		0xFFF0000000000001,
		0xFFF7FFFFFFFFFFFF,
	}
}

// numbers are paces that are no NaNs, the edges among them, from the least to the greatest one.
func numbers() []float64 {
	up := []float64{
		0,
		least,
		2 * least,
		7 * least,
		math.Float64frombits(0x000FFFFFFFFFFFFF),
		math.Float64frombits(0x0010000000000000),
		1e-300,
		0.1,
		math.Nextafter(1, 0),
		1,
		math.Nextafter(1, 2),
		1.5,
		2,
		8,
		1 << 53,
		1<<53 + 2,
		1e300,
		most / 2,
		math.Nextafter(most, 0),
		most,
		inf,
	}
	l := slices.Clone(up)
	for _, x := range up {
		l = slices.Insert(l, 0, math.Copysign(x, -1))
	}
	return l
}

// paces are numbers, behind them NaNs.
func paces() []float64 {
	l := numbers()
	for _, n := range nans() {
		l = append(l, math.Float64frombits(n))
	}
	return l
}

// rank tells where a pace stands among paces: those that are equal share a rank.
func rank(at int) int {
	return min(at, len(numbers()))
}

func TestCompareExamples(t *testing.T) {
	for _, r := range []struct {
		a, b float64
		want int
	}{
		{minus, 0, -1},
		{math.NaN(), inf, 1},
		{math.NaN(), math.NaN(), 0},
		{1, 2, -1},
		{-inf, -1, -1},
		{0, 0, 0},
		{minus, minus, 0},
		{inf, inf, 0},
		{-inf, -inf, 0},
		{-inf, -most, -1},
		{most, inf, -1},
		{-least, minus, -1},
		{0, least, -1},
		{minus, least, -1},
		{-least, 0, -1},
		{-1, -2, 1},
		{math.Float64frombits(0xFFF8000000000000), -inf, 1},
		{math.Float64frombits(0xFFF8000000000000), math.NaN(), 0},
	} {
		if got := Compare(r.a, r.b); got != r.want {
			t.Errorf("%v: %d", r, got)
		}
		if got := Compare(r.b, r.a); got != -r.want {
			t.Errorf("%v, turned: %d", r, got)
		}
	}
}

// TestOrderIsTotal holds P2.1 and P2.4: whoever comes later in the list is greater, but that all NaNs are equal.
func TestOrderIsTotal(t *testing.T) {
	for i, a := range paces() {
		for j, b := range paces() {
			want := min(1, max(-1, rank(i)-rank(j)))
			if got := Compare(a, b); got != want {
				t.Errorf("%s, %s: %d, not %d", Text(a), Text(b), got, want)
			}
			if same := Bits(a) == Bits(b); same != (want == 0) {
				t.Errorf("%s, %s: the forms tell %v", Text(a), Text(b), same)
			}
		}
	}
}

func TestLeast(t *testing.T) {
	nan := math.NaN()
	for i, r := range []struct {
		l    []float64
		want int
	}{
		{nil, -1},
		{[]float64{}, -1},
		{[]float64{1, minus, 0}, 1},
		{[]float64{1, 0, minus}, 2},
		{[]float64{nan, nan}, 0},
		{[]float64{math.Float64frombits(0x7FF8000000000001), math.Float64frombits(0xFFF8000000000000)}, 0},
		{[]float64{nan, inf}, 1},
		{[]float64{nan}, 0},
		{[]float64{math.Float64frombits(0xFFF8000000000000), -inf, nan}, 1},
		{[]float64{3, 2, 1, 1, 1, 2}, 2},
		{[]float64{minus, minus, 0}, 0},
		{[]float64{1, -1, -inf, inf, -inf}, 2},
		{[]float64{inf, nan, most}, 2},
		{[]float64{-least, -2 * least, minus}, 1},
	} {
		if got := Least(r.l); got != r.want {
			t.Errorf("%d: %v: %d, not %d", i, r.l, got, r.want)
		}
	}
}

// TestLeastOfMany holds Least against what it says: nobody is less, and whoever is before is greater.
func TestLeastOfMany(t *testing.T) {
	all := paces()
	for turn := range all {
		l := slices.Concat(all[turn:], all[:turn], all)
		at := Least(l)
		for i, x := range l {
			if c := Compare(l[at], x); c > 0 || c == 0 && i < at {
				t.Errorf("turned by %d: %d, beside %d", turn, at, i)
			}
		}
	}
}

func TestListIsLeftAlone(t *testing.T) {
	l := make([]float64, 3, 5)
	copy(l[:5], []float64{3, 2, 4, -1, -2})
	if at, mean := Least(l), Mean(l); at != 1 || mean != 2.875+(4-2.875)/8 {
		t.Error(at, mean)
	}
	if !slices.Equal(l[:5], []float64{3, 2, 4, -1, -2}) {
		t.Error(l[:5])
	}
}
