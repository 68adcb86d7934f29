package wide

import (
	"math/big"
	"testing"
)

func TestAddCarries(t *testing.T) {
	for _, r := range []struct {
		p    product
		at   int
		word uint64
		want product
	}{
		{product{ones, ones, 5}, 0, 1, product{0, 0, 6}},
		{product{ones, 7, 5}, 0, ones, product{ones - 1, 8, 5}},
		{product{ones, ones, 5}, 1, 2, product{ones, 1, 6}},
		{product{ones, ones, 5}, 2, 2, product{ones, ones, 7}},
		{product{1, 2, 3}, 0, 0, product{1, 2, 3}},
	} {
		p := r.p
		if p.add(r.at, r.word); p != r.want {
			t.Error(r, p)
		}
	}
}

func TestMultiply(t *testing.T) {
	for _, a := range wides() {
		for _, n := range ints() {
			p, got := multiply(a, n), new(big.Int)
			for i := range p {
				got.Lsh(got, 64).Or(got, new(big.Int).SetUint64(p[len(p)-1-i]))
			}
			if want := new(big.Int).Mul(bigOf(a), big.NewInt(int64(n))); got.Cmp(want) != 0 {
				t.Error(a, n, got, want)
			}
		}
	}
}
