package aes

import "math/bits"

const (
	remainder = 0x1b // what x^8 leaves, divided by the polynomial of the field
	turnedOn  = 0x63 // the bits that Sub turns in the end
)

// Product multiplies in the cipher's field.
func Product(a, b byte) byte {
	var sum byte
	for ; b > 0; b >>= 1 {
		if b&1 == 1 {
			sum ^= a
		}
		a = double(a)
	}
	return sum
}

func double(a byte) byte { return a<<1 ^ (a>>7)*remainder }

// Inverse gives the number whose product with a is 1; 0 of 0.
func Inverse(a byte) byte { return inverses()[a] }

// Sub puts another byte in a byte's place.
func Sub(a byte) byte { return blend(Inverse(a)) }

// Unsub takes it back.
func Unsub(a byte) byte { return Inverse(unblend(a)) }

// blend gives what Sub makes of an inverse. To take the bit n places on, modulo 8, is to turn the byte by 8 - n places to the left.
func blend(b byte) byte {
	return b ^ bits.RotateLeft8(b, 4) ^ bits.RotateLeft8(b, 3) ^ bits.RotateLeft8(b, 2) ^ bits.RotateLeft8(b, 1) ^ turnedOn
}

// unblend takes it back: a turn by n places is a product with x^n modulo x^8 + 1, where x^6 + x^3 + x is the inverse of x^4 + x^3 + x^2 + x + 1.
func unblend(b byte) byte {
	b ^= turnedOn
	return bits.RotateLeft8(b, 6) ^ bits.RotateLeft8(b, 3) ^ bits.RotateLeft8(b, 1)
}

// inverses works out the inverse of each byte. The powers of 3 are all bytes but 0, and the power number 255 is 1 again: so the inverse of the power number n is the power number 255 - n.
func inverses() [256]byte {
	var powers, table [256]byte
	power := byte(1)
	for n := range powers {
		powers[n] = power
		power ^= double(power)
	}
	for n, a := range powers {
		table[a] = powers[255-n]
	}
	return table
}
