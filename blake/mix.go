package blake

import "math/bits"

const (
	// rows is the table, a row for each round, a digit for each number.
	rows = "0123456789abcdef" +
		"ea489fd61c02b753" +
		"b8c052fdae367194" +
		"7931dcbe265a40f8" +
		"905724afe1bc683d" +
		"2c6a0b834d75fe19" +
		"c51fed4a0763928b" +
		"db7ec13950f4862a" +
		"6fe9b308c2d714a5" +
		"a2847615fb9e3cd0"

	rowLen = 16

	// parameters says that hashes have 32 bytes and there is no key.
	parameters = 0x01010020

	// isLast marks the last block.
	isLast = 0xffffffff
)

// initial tells the words that states, and the rounds of each block, begin with.
func initial() [8]uint32 {
	return [8]uint32{0x6a09e667, 0xbb67ae85, 0x3c6ef372, 0xa54ff53a, 0x510e527f, 0x9b05688c, 0x1f83d9ab, 0x5be0cd19}
}

// compress puts the block into the words; the mark tells whether it is the last one.
func (s *State) compress(mark uint32) {
	v := s.begin(mark)
	m := wordsOf(&s.block)
	var picked [rowLen]uint32
	for at, digit := range rows {
		n, _ := value(digit)
		picked[at%rowLen] = m[n]
		if at%rowLen == rowLen-1 {
			round(&v, &picked)
		}
	}
	for i := range s.words {
		s.words[i] ^= v[i] ^ v[i+8]
	}
}

// begin tells the words that the rounds of a block begin with.
func (s *State) begin(mark uint32) [16]uint32 {
	var v [16]uint32
	i := initial()
	copy(v[:8], s.words[:])
	copy(v[8:], i[:])
	low, high := s.halves()
	v[12] ^= low
	v[13] ^= high
	v[14] ^= mark
	return v
}

// round mixes the columns, then the diagonals, with a block's words in the order of a row.
func round(v, m *[16]uint32) {
	mix(&v[0], &v[4], &v[8], &v[12], m[0], m[1])
	mix(&v[1], &v[5], &v[9], &v[13], m[2], m[3])
	mix(&v[2], &v[6], &v[10], &v[14], m[4], m[5])
	mix(&v[3], &v[7], &v[11], &v[15], m[6], m[7])
	mix(&v[0], &v[5], &v[10], &v[15], m[8], m[9])
	mix(&v[1], &v[6], &v[11], &v[12], m[10], m[11])
	mix(&v[2], &v[7], &v[8], &v[13], m[12], m[13])
	mix(&v[3], &v[4], &v[9], &v[14], m[14], m[15])
}

// mix changes four words by each other, and by two of a block.
func mix(a, b, c, d *uint32, x, y uint32) {
	*a += *b + x
	*d = rotated(*d^*a, 16)
	*c += *d
	*b = rotated(*b^*c, 12)
	*a += *b + y
	*d = rotated(*d^*a, 8)
	*c += *d
	*b = rotated(*b^*c, 7)
}

// rotated tells a word with its lowest n bits moved to the top.
func rotated(x uint32, n int) uint32 {
	return bits.RotateLeft32(x, -n)
}

// wordsOf tells the words of a block.
func wordsOf(b *[blockLen]byte) [16]uint32 {
	var m [16]uint32
	for i := range m {
		m[i] = word(b[4*i : 4*i+4])
	}
	return m
}

// word tells the word of four bytes, the lowest one first.
func word(b []byte) uint32 {
	return uint32(b[0]) | uint32(b[1])<<8 | uint32(b[2])<<16 | uint32(b[3])<<24
}

// putWord writes a word into four bytes, the lowest one first.
func putWord(b []byte, w uint32) {
	for i := range b {
		b[i] = byte(w >> (8 * i))
	}
}
