package pace

import (
	"math"
	"math/big"
	"testing"
)

// same tells whether two paces are one; zeros have signs here.
func same(a, b float64) bool {
	return Bits(a) == Bits(b)
}

func TestSmooth(t *testing.T) {
	nan := math.NaN()
	for _, r := range []struct{ old, x, want float64 }{
		{8, 16, 9},
		{16, 8, 15},
		{0, 1, 0.125},
		{-8, 8, -6},
		{5, 5, 5},
		{nan, 7, 7},
		{nan, 0, 0},
		{nan, minus, minus},
		{nan, inf, inf},
		{nan, -inf, -inf},
		{nan, nan, nan},
		{math.Float64frombits(0xFFF8000000000001), 3, 3},
		{7, nan, nan},
		{inf, nan, nan},
		{0, nan, nan},
		{inf, inf, nan},
		{-inf, -inf, nan},
		{inf, -inf, nan},
		{-inf, inf, nan},
		{0, inf, inf},
		{0, -inf, -inf},
		{inf, 0, nan},
		{-inf, 1, nan},
		{0, 0, 0},
		{minus, minus, 0},
		{0, minus, 0},
		{minus, 0, 0},
		{most, most, most},
	} {
		if got := Smooth(r.old, r.x); !same(got, r.want) {
			t.Errorf("%v: %v", r, got)
		}
	}
}

// TestSmoothRounds holds that the difference, the eighth and the sum are rounded, each for itself.
func TestSmoothRounds(t *testing.T) {
	for _, r := range []struct{ old, x, want float64 }{
		{-most, most, inf}, // the difference is no finite number
		{most, -most, -inf},
		{-most / 2, most / 2, -most/2 + most/8}, // the greatest difference that is one
		{0, 4 * least, 0},                       // half of the least number is 0, as that is even
		{0, -4 * least, 0},
		{minus, -4 * least, minus},
		{0, 5 * least, least},
		{0, 12 * least, 2 * least},
		{0, 20 * least, 2 * least},
		{0, 28 * least, 4 * least},
		{least, 5 * least, least}, // in one step with the sum it would be 2
		{-least, -5 * least, -least},
		{2 * least, 2*least + 12*least, 4 * least},
		{minus, 3 * least, 0},
		{0, minus, 0},
		{1 << 53, 1<<53 + 2, 1 << 53}, // the sum is rounded
		{1 << 53, 1<<53 + 8, 1 << 53},
		{1<<53 + 2, 1<<53 + 10, 1<<53 + 4},
	} {
		if got := Smooth(r.old, r.x); !same(got, r.want) {
			t.Errorf("%s, %s: %s, not %s", Text(r.old), Text(r.x), Text(got), Text(r.want))
		}
	}
}

// round tells the float64 nearest to a number that is exact, ties to even.
func round(x *big.Rat) float64 {
	f, _ := x.Float64()
	return f
}

func ratOf(x float64) *big.Rat {
	return new(big.Rat).SetFloat64(x)
}

// finite tells whether there is an exact number.
func finite(x float64) bool {
	return !math.IsNaN(x) && !math.IsInf(x, 0)
}

// exactSmooth tells what Smooth is to tell, by exact numbers that are rounded; whether all of it is finite.
func exactSmooth(old, x float64) (float64, bool) {
	if !finite(old) || !finite(x) {
		return 0, false
	}
	difference := round(new(big.Rat).Sub(ratOf(x), ratOf(old)))
	if !finite(difference) {
		return 0, false
	}
	eighth := round(new(big.Rat).Quo(ratOf(difference), big.NewRat(8, 1)))
	sum := round(new(big.Rat).Add(ratOf(old), ratOf(eighth)))
	return sum, finite(sum)
}

// some are numbers without a rule, the same ones in each run: of all sizes, near to 0, and near to each other.
func some() []float64 {
	seed := uint64(88172645463325252)
	l := numbers()
	for range 60 {
		seed ^= seed << 13
		seed ^= seed >> 7
		seed ^= seed << 17
		l = append(l, math.Float64frombits(seed), math.Float64frombits(seed&(1<<63|0xFF)), math.Float64frombits(0x3FE<<52|seed&(1<<63|1<<53-1)))
	}
	return l
}

// TestSmoothIsExact holds P2.3 and P2.5 against exact numbers: the results are equal as numbers, and not outside of both.
func TestSmoothIsExact(t *testing.T) {
	held := 0
	for _, old := range some() {
		for _, x := range some() {
			want, ok := exactSmooth(old, x)
			if !ok {
				continue
			}
			held++
			got := Smooth(old, x)
			if got != want {
				t.Errorf("%s, %s: %s, not %s", Text(old), Text(x), Text(got), Text(want))
			}
			if got < min(old, x) || got > max(old, x) {
				t.Errorf("%s, %s: %s is outside", Text(old), Text(x), Text(got))
			}
		}
	}
	if held < 10000 {
		t.Error(held)
	}
}

func TestMean(t *testing.T) {
	nan := math.NaN()
	for _, r := range []struct {
		l    []float64
		want float64
	}{
		{nil, nan},
		{[]float64{}, nan},
		{[]float64{nan}, nan},
		{[]float64{nan, nan, nan}, nan},
		{[]float64{7}, 7},
		{[]float64{minus}, minus},
		{[]float64{minus, minus}, 0},
		{[]float64{8, 16}, 9},
		{[]float64{16, 8}, 15},
		{[]float64{8, 16, 17}, 10},
		{[]float64{17, 16, 8}, 15.765625},
		{[]float64{nan, 8, 16}, 9},
		{[]float64{8, nan, 16}, 16},
		{[]float64{8, 16, nan}, nan},
		{[]float64{inf, inf}, nan},
		{[]float64{inf, inf, 3}, 3},
		{[]float64{inf}, inf},
		{[]float64{0, inf}, inf},
		{[]float64{0, -inf}, -inf},
		{[]float64{-most, most}, inf},
		{[]float64{0, 4 * least, 4 * least}, 0},
	} {
		if got := Mean(r.l); !same(got, r.want) {
			t.Errorf("%v: %v, not %v", r.l, got, r.want)
		}
	}
}

// TestMeanIsSmooth holds that a mean goes from element to element, in order.
func TestMeanIsSmooth(t *testing.T) {
	mean, all := math.NaN(), paces()
	for i, x := range all {
		mean = Smooth(mean, x)
		if got := Mean(all[:i+1]); !same(got, mean) {
			t.Errorf("%d: %v, not %v", i, got, mean)
		}
	}
}
