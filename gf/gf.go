// Package gf is layer 1: the field of 256 elements in which parity is reckoned (shared/doc/01-gf.md).
package gf

import "casemate/api"

const (
	// rest is what x^8 leaves behind a division by the field's polynomial, 11D to the base 16.
	rest = 0x1D
	// round is after how many steps the powers of 2 begin again.
	round = 255
	// bits is how many factors a byte has.
	bits = 8
)

// Mul is the product of a and b.
func Mul(a, b byte) byte {
	var sum byte
	for i := range bits {
		if b>>i&1 == 1 {
			sum ^= a
		}
		a = double(a)
	}
	return sum
}

// Div is the byte whose product with b is a; ErrArg, if b is 0.
func Div(a, b byte) (byte, api.Errno) {
	inverse, e := Inv(b)
	if e != api.OK {
		return 0, e
	}
	return Mul(a, inverse), api.OK
}

// Inv is the byte whose product with a is 1; ErrArg, if a is 0.
func Inv(a byte) (byte, api.Errno) {
	if a == 0 {
		return 0, api.ErrArg
	}
	// Each byte but 0, taken 255 times with itself, makes 1: once less makes its inverse.
	return raise(a, round-1), api.OK
}

// Pow is the power of n: 2, n times taken with itself.
func Pow(n int) byte {
	steps := n % round
	if steps < 0 {
		steps += round
	}
	return raise(2, steps)
}

// Log is the n from 0 to 254 whose power a is; ErrArg, if a is 0.
func Log(a byte) (int, api.Errno) {
	power := byte(1)
	for n := range round {
		if power == a {
			return n, api.OK
		}
		power = double(power)
	}
	// Only 0 comes here: each other byte is one of the powers.
	return 0, api.ErrArg
}

// double is the product of a and 2.
func double(a byte) byte {
	if a>>(bits-1) == 1 {
		return a<<1 ^ rest
	}
	return a << 1
}

// raise is a, n times taken with itself, for n from 0 to 255.
func raise(a byte, n int) byte {
	product := byte(1)
	for i := range bits {
		if n>>i&1 == 1 {
			product = Mul(product, a)
		}
		a = Mul(a, a)
	}
	return product
}
