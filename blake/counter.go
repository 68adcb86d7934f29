package blake

// blockLen is how many bytes a block has.
const blockLen = 64

// counter counts bytes.
type counter struct{ bytes int }

// count adds bytes that came.
func (c *counter) count(n int) {
	c.bytes += n
}

// total tells how many bytes came.
func (c *counter) total() int {
	return c.bytes
}

// filled tells how many of them are in the last block: none only if there are none at all.
func (c *counter) filled() int {
	if c.bytes == 0 {
		return 0
	}
	return (c.bytes-1)%blockLen + 1
}

// halves tells the low and the high word of the number.
func (c *counter) halves() (low, high uint32) {
	n := uint64(c.bytes)
	return uint32(n), uint32(n >> 32)
}
