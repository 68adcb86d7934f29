package blake

import (
	"math/big"

	"landfall/api"
)

// table is the chapter's, number by number.
func table() [10][16]int {
	return [10][16]int{
		{0, 1, 2, 3, 4, 5, 6, 7, 8, 9, 10, 11, 12, 13, 14, 15},
		{14, 10, 4, 8, 9, 15, 13, 6, 1, 12, 0, 2, 11, 7, 5, 3},
		{11, 8, 12, 0, 5, 2, 15, 13, 10, 14, 3, 6, 7, 1, 9, 4},
		{7, 9, 3, 1, 13, 12, 11, 14, 2, 6, 5, 10, 4, 0, 15, 8},
		{9, 0, 5, 7, 2, 4, 10, 15, 14, 1, 11, 12, 6, 8, 3, 13},
		{2, 12, 6, 10, 0, 11, 8, 3, 4, 13, 7, 5, 15, 14, 1, 9},
		{12, 5, 1, 15, 14, 13, 4, 10, 0, 7, 6, 3, 9, 2, 8, 11},
		{13, 11, 7, 14, 12, 1, 3, 9, 5, 0, 15, 4, 8, 6, 2, 10},
		{6, 15, 14, 9, 11, 3, 0, 8, 12, 2, 13, 7, 1, 4, 10, 5},
		{10, 2, 8, 4, 7, 6, 1, 5, 15, 11, 9, 14, 3, 12, 13, 0},
	}
}

const mod = 1 << 32

// turn moves the lowest n bits of a word to the top, by division.
func turn(x, n int) int {
	low := x % (1 << n)
	return x>>n + low<<(32-n)
}

// numbers tells the words of bytes as numbers, each by its bytes' powers of 256.
func numbers(b []byte) []int {
	var l []int
	for i := 0; i < len(b); i += 4 {
		l = append(l, int(b[i])+256*int(b[i+1])+65536*int(b[i+2])+16777216*int(b[i+3]))
	}
	return l
}

// oracle tells a hash as the chapter's steps do, on numbers whose sums are cut to 32 bits.
func oracle(b []byte) api.Hash {
	start := []int{0x6a09e667, 0xbb67ae85, 0x3c6ef372, 0xa54ff53a, 0x510e527f, 0x9b05688c, 0x1f83d9ab, 0x5be0cd19}
	h := append([]int{}, start...)
	h[0] ^= 0x01010020
	places := [8][4]int{{0, 4, 8, 12}, {1, 5, 9, 13}, {2, 6, 10, 14}, {3, 7, 11, 15}, {0, 5, 10, 15}, {1, 6, 11, 12}, {2, 7, 8, 13}, {3, 4, 9, 14}}
	for from := 0; from == 0 || from < len(b); from += 64 {
		end := min(from+64, len(b))
		var block [64]byte
		copy(block[:], b[from:end])
		m := numbers(block[:])
		v := append(append([]int{}, h...), start...)
		v[12] ^= end % mod
		v[13] ^= end / mod
		if end == len(b) {
			v[14] ^= mod - 1
		}
		for _, s := range table() {
			for i, p := range places {
				a, b, c, d := &v[p[0]], &v[p[1]], &v[p[2]], &v[p[3]]
				x, y := m[s[2*i]], m[s[2*i+1]]
				*a = (*a + *b + x) % mod
				*d = turn(*d^*a, 16)
				*c = (*c + *d) % mod
				*b = turn(*b^*c, 12)
				*a = (*a + *b + y) % mod
				*d = turn(*d^*a, 8)
				*c = (*c + *d) % mod
				*b = turn(*b^*c, 7)
			}
		}
		for i := range h {
			h[i] ^= v[i] ^ v[i+8]
		}
	}
	var sum api.Hash
	for i := range sum {
		sum[i] = byte(h[i/4] >> (8 * (i % 4)))
	}
	return sum
}

// textOf tells the text of a hash by a great number in base 16.
func textOf(h api.Hash) string {
	t := new(big.Int).SetBytes(h[:]).Text(16)
	for len(t) < 64 {
		t = "0" + t
	}
	return t
}
