package aes

// OtherBox is the other box as c has it by now: so that tests see when it is made.
func OtherBox(c *Cipher) [256]byte {
	return c.other
}

// SpoilBox turns c's box: so that tests see whether the other box is made of it once more.
func SpoilBox(c *Cipher) {
	for i := range c.box {
		c.box[i] ^= 0xFF
	}
}
