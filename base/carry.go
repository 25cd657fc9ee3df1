package base

import "strings"

// carry holds bits that are on their way from bytes to letters, or back: the first of them is the highest.
type carry struct {
	bits, count uint
}

// put puts so many bits behind those that are held.
func (c *carry) put(bits, count uint) {
	c.bits = c.bits<<count | bits
	c.count += count
}

// take takes the first so many bits, if as many are held.
func (c *carry) take(count uint) (uint, bool) {
	if c.count < count {
		return 0, false
	}
	c.count -= count
	first := c.bits >> c.count
	// What was taken does not stay: at a text's end it is asked whether the bits that are left are all 0.
	c.bits -= first << c.count
	return first, true
}

// tell takes all whole letters and writes them.
func (c *carry) tell(s *strings.Builder) {
	for n, whole := c.take(ofLetter); whole; n, whole = c.take(ofLetter) {
		s.WriteByte(alphabet[n])
	}
}
