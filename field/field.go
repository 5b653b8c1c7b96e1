// Package field multiplies bytes: see doc/01-field.md.
package field

import "spareparts/api"

// order is how many bytes other than 0 there are: each of them, so many times by itself, is 1.
const order = 255

// Mul is what is left of the product of a and b by api.Poly.
func Mul(a, b byte) byte {
	times := timesPowersOfX(a)
	var sum byte
	for k := range times {
		if b>>k&1 == 1 {
			sum ^= times[k]
		}
	}
	return sum
}

// Inv is the byte that times a is 1; of 0 it is 0.
func Inv(a byte) byte {
	// One time fewer than what makes 1 is what is missing to 1; and 0 stays 0.
	return raise(a, order-1)
}

// Pow is a, n times by itself; below 0, Inv(a) so many times.
func Pow(a byte, n int) byte {
	if n == 0 {
		return 1
	}
	if a == 0 {
		return 0
	}
	// Powers come again after order steps, so the remainder tells all,
	// and the least int, which has no opposite, needs none.
	left := n % order
	if left < 0 {
		left += order
	}
	return raise(a, left)
}

// raise is a, n times by itself, for n from 0 to order.
func raise(a byte, n int) byte {
	squares := repeatedSquares(a)
	product := byte(1)
	for k := range squares {
		if n>>k&1 == 1 {
			product = Mul(product, squares[k])
		}
	}
	return product
}

// timesPowersOfX has, at k, a times x to the k.
func timesPowersOfX(a byte) [8]byte {
	var times [8]byte
	for k := range times {
		times[k] = a
		a = timesX(a)
	}
	return times
}

// repeatedSquares has, at k, a to the power of 2 to the k.
func repeatedSquares(a byte) [8]byte {
	var squares [8]byte
	for k := range squares {
		squares[k] = a
		a = Mul(a, a)
	}
	return squares
}

// timesX is a times x.
func timesX(a byte) byte {
	if a>>7 == 0 {
		return a << 1
	}
	// The shift drops x to the 8 itself, so only the rest of Poly is left to add.
	return a<<1 ^ byte(api.Poly&0xff)
}
