package wide

import (
	"math"
	"math/big"
	"slices"
	"testing"

	"landfall/api"
)

const ones = math.MaxUint64

// wides are the edges that the document names, what is beside them, and some without a rule.
func wides() []api.Wide {
	l := []api.Wide{
		{},
		{Lo: 1},
		{Lo: 2},
		{Lo: 9},
		{Lo: 10},
		{Lo: 1<<32 - 1},
		{Lo: 1 << 62},
		{Lo: 1<<63 - 2},
		{Lo: 1<<63 - 1},
		{Lo: 1 << 63},
		{Lo: ones - 1},
		{Lo: ones},
		{Hi: 1},
		{Hi: 1, Lo: 1},
		{Hi: 1, Lo: ones},
		{Hi: 2},
		{Hi: 1<<63 - 1, Lo: ones},
		{Hi: 1 << 63},
		{Hi: 1 << 63, Lo: 1},
		{Hi: ones},
		{Hi: ones, Lo: 1},
		{Hi: ones, Lo: ones - 1},
		{Hi: ones, Lo: ones},
	}
	x := uint64(88172645463325252)
	for range 20 {
		hi, lo, n := shift(&x), shift(&x), shift(&x)
		l = append(l, api.Wide{Hi: hi >> (n % 64), Lo: lo})
	}
	return l
}

// ints are numbers from 0 on: the least ones, the greatest ones, and some between.
func ints() []int {
	return []int{0, 1, 2, 3, 5, 10, 1<<31 - 1, 1 << 32, 3037000500, 1 << 62, 1<<62 + 1, math.MaxInt - 1, math.MaxInt}
}

// shift tells one number after the other, the same ones in each run.
func shift(x *uint64) uint64 {
	*x ^= *x << 13
	*x ^= *x >> 7
	*x ^= *x << 17
	return *x
}

func bigOf(a api.Wide) *big.Int {
	x := new(big.Int).SetUint64(a.Hi)
	return x.Lsh(x, 64).Or(x, new(big.Int).SetUint64(a.Lo))
}

// check holds a sum or a product against the true one.
func check(t *testing.T, got api.Wide, e api.Errno, want *big.Int, what ...any) {
	t.Helper()
	if want.BitLen() > 128 {
		if e != api.ErrFull || got != (api.Wide{}) {
			t.Errorf("%v: %v, %v, not ErrFull", what, got, e)
		}
	} else if e != api.OK || bigOf(got).Cmp(want) != 0 {
		t.Errorf("%v: %v, %v, not %v", what, got, e, want)
	}
}

func TestOf(t *testing.T) {
	for _, n := range ints() {
		if a, e := Of(n); e != api.OK || a != (api.Wide{Lo: uint64(n)}) {
			t.Error(n, a, e)
		}
	}
	for _, n := range []int{-1, -2, -1 << 62, math.MinInt + 1, math.MinInt} {
		if a, e := Of(n); e != api.ErrRange || a != (api.Wide{}) {
			t.Error(n, a, e)
		}
	}
}

func TestPlus(t *testing.T) {
	all := api.Wide{Hi: ones, Lo: ones}
	if a, e := Plus(all, api.Wide{}); e != api.OK || a != all {
		t.Error(a, e)
	}
	if a, e := Plus(all, api.Wide{Lo: 1}); e != api.ErrFull || a != (api.Wide{}) {
		t.Error(a, e)
	}
	for _, a := range wides() {
		for _, b := range wides() {
			sum, e := Plus(a, b)
			check(t, sum, e, new(big.Int).Add(bigOf(a), bigOf(b)), a, b)
		}
	}
}

func TestTimes(t *testing.T) {
	all := api.Wide{Hi: ones, Lo: ones}
	for _, r := range []struct {
		a    api.Wide
		n    int
		want api.Wide
		err  api.Errno
	}{
		{api.Wide{Hi: 1}, 5, api.Wide{Hi: 5}, api.OK},
		{api.Wide{Hi: 1 << 63}, 2, api.Wide{}, api.ErrFull},
		{api.Wide{Hi: 1<<63 - 1, Lo: ones}, 2, api.Wide{Hi: ones, Lo: ones - 1}, api.OK},
		{all, 0, api.Wide{}, api.OK},
		{all, 1, all, api.OK},
		{all, 2, api.Wide{}, api.ErrFull},
		{api.Wide{Lo: 1}, -1, api.Wide{}, api.ErrRange},
		{api.Wide{}, -1, api.Wide{}, api.ErrRange},
		{all, math.MinInt, api.Wide{}, api.ErrRange},
	} {
		if a, e := Times(r.a, r.n); e != r.err || a != r.want {
			t.Error(r, a, e)
		}
	}
	for _, a := range wides() {
		for _, n := range ints() {
			p, e := Times(a, n)
			check(t, p, e, new(big.Int).Mul(bigOf(a), big.NewInt(int64(n))), a, n)
		}
	}
}

func TestSum(t *testing.T) {
	for _, r := range []struct {
		l    []int
		want api.Wide
		err  api.Errno
	}{
		{nil, api.Wide{}, api.OK},
		{[]int{}, api.Wide{}, api.OK},
		{[]int{0, 0}, api.Wide{}, api.OK},
		{[]int{7}, api.Wide{Lo: 7}, api.OK},
		{[]int{1 << 62, 1 << 62, 1 << 62, 1 << 62}, api.Wide{Hi: 1}, api.OK},
		{[]int{math.MaxInt, math.MaxInt}, api.Wide{Lo: ones - 1}, api.OK},
		{[]int{math.MaxInt, math.MaxInt, 1, 1, 5}, api.Wide{Hi: 1, Lo: 5}, api.OK},
		{[]int{-1}, api.Wide{}, api.ErrRange},
		{[]int{1, -1}, api.Wide{}, api.ErrRange},
		{[]int{-1, 1}, api.Wide{}, api.ErrRange},
		{[]int{3, math.MinInt, 3}, api.Wide{}, api.ErrRange},
	} {
		was := slices.Clone(r.l)
		if a, e := Sum(r.l); e != r.err || a != r.want {
			t.Error(r, a, e)
		}
		if !slices.Equal(r.l, was) {
			t.Errorf("%v was changed to %v", was, r.l)
		}
	}
	long := slices.Repeat([]int{math.MaxInt}, 1001)
	sum, e := Sum(long)
	check(t, sum, e, new(big.Int).Mul(big.NewInt(math.MaxInt), big.NewInt(1001)), "long")
}

func TestCmp(t *testing.T) {
	if Cmp(api.Wide{Hi: 1}, api.Wide{Lo: ones}) != 1 {
		t.Error("2^64 is greater than 2^64 - 1")
	}
	for _, a := range wides() {
		for _, b := range wides() {
			if got, want := Cmp(a, b), bigOf(a).Cmp(bigOf(b)); got != want {
				t.Error(a, b, got, want)
			}
		}
	}
}

func TestMore(t *testing.T) {
	all := api.Wide{Hi: ones, Lo: ones}
	for _, r := range []struct {
		a    api.Wide
		n    int
		b    api.Wide
		m    int
		want bool
	}{
		{all, 3, all, 2, true},
		{all, 2, all, 2, false},
		{all, 2, all, 3, false},
		{api.Wide{Hi: 1}, 1, api.Wide{Lo: 1 << 63}, 2, false},
		{api.Wide{}, 5, api.Wide{Lo: 1}, 0, false},
		{all, math.MaxInt, all, math.MaxInt - 1, true},
		{all, math.MaxInt, all, math.MaxInt, false},
	} {
		if is, e := More(r.a, r.n, r.b, r.m); e != api.OK || is != r.want {
			t.Error(r, is, e)
		}
	}
	for _, a := range wides() {
		for _, n := range ints() {
			p := new(big.Int).Mul(bigOf(a), big.NewInt(int64(n)))
			for _, b := range wides() {
				for _, m := range ints() {
					want := p.Cmp(new(big.Int).Mul(bigOf(b), big.NewInt(int64(m)))) > 0
					if is, e := More(a, n, b, m); e != api.OK || is != want {
						t.Fatal(a, n, b, m, is, e)
					}
				}
			}
		}
	}
}

func TestMoreOutOfRange(t *testing.T) {
	all := api.Wide{Hi: ones, Lo: ones}
	for _, r := range [][2]int{{1, -1}, {-1, 1}, {-1, -1}, {0, -1}, {math.MinInt, 0}, {math.MaxInt, math.MinInt}} {
		for _, a := range []api.Wide{{}, {Lo: 1}, all} {
			if is, e := More(a, r[0], a, r[1]); e != api.ErrRange || is {
				t.Error(a, r, is, e)
			}
		}
	}
}

func TestClamp(t *testing.T) {
	for _, a := range wides() {
		want := new(big.Int).SetInt64(math.MaxInt)
		if x := bigOf(a); x.Cmp(want) < 0 {
			want = x
		}
		if got := Clamp(a); int64(got) != want.Int64() {
			t.Error(a, got, want)
		}
	}
}

// TestOrder holds P1.4: neither order nor brackets matter where nothing is full, and More is what Cmp of both products is.
func TestOrder(t *testing.T) {
	for _, a := range wides() {
		for _, b := range wides() {
			ab, e := Plus(a, b)
			ba, f := Plus(b, a)
			if ab != ba || e != f {
				t.Error(a, b, ab, ba, e, f)
			}
			for _, n := range ints() {
				distributes(t, a, b, n)
				agrees(t, a, b, n)
			}
		}
	}
	l := []int{5, 0, 1 << 62, math.MaxInt, 9, 1 << 62, math.MaxInt}
	first, _ := Sum(l)
	for range l {
		l = append(l[1:], l[0])
		if sum, e := Sum(l); sum != first || e != api.OK {
			t.Error(l, sum, e)
		}
	}
}

func distributes(t *testing.T, a, b api.Wide, n int) {
	sum, e := Plus(a, b)
	of, f := Times(sum, n)
	an, g := Times(a, n)
	bn, h := Times(b, n)
	if e|f|g|h != api.OK {
		return
	}
	if got, e := Plus(an, bn); got != of || e != api.OK {
		t.Error(a, b, n, got, of, e)
	}
}

func agrees(t *testing.T, a, b api.Wide, n int) {
	for _, m := range ints() {
		an, e := Times(a, n)
		bm, f := Times(b, m)
		if e|f != api.OK {
			continue
		}
		if is, e := More(a, n, b, m); is != (Cmp(an, bm) > 0) || e != api.OK {
			t.Error(a, n, b, m, is, e)
		}
	}
}

func TestMoreIsTransitive(t *testing.T) {
	more := func(a api.Wide, n int, b api.Wide, m int) bool {
		is, e := More(a, n, b, m)
		return is && e == api.OK
	}
	numbers := []int{1, 3, 1 << 62, math.MaxInt}
	for _, a := range wides() {
		for _, b := range wides() {
			for _, n := range numbers {
				for _, m := range numbers {
					if !more(a, n, b, m) {
						continue
					}
					for _, c := range wides() {
						if more(b, m, c, n) && !more(a, n, c, n) {
							t.Error(a, n, b, m, c)
						}
					}
				}
			}
		}
	}
}
