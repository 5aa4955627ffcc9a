package aes_test

import (
	"testing"

	"strongroom/aes"
)

// slowProduct multiplies polynomials and divides them as on paper.
func slowProduct(a, b byte) byte {
	whole := 0
	for i := range 8 {
		if b>>i&1 == 1 {
			whole ^= int(a) << i
		}
	}
	for i := 14; i >= 8; i-- {
		if whole>>i&1 == 1 {
			whole ^= 0x11b << (i - 8)
		}
	}
	return byte(whole)
}

// slowInverse looks for the byte whose product is 1.
func slowInverse(a byte) byte {
	for b := range 256 {
		if slowProduct(a, byte(b)) == 1 {
			return byte(b)
		}
	}
	return 0
}

// slowSub takes the bits one by one.
func slowSub(a byte) byte {
	b := slowInverse(a)
	var out byte
	for i := range 8 {
		bit := 0x63 >> i & 1
		for _, n := range []int{0, 4, 5, 6, 7} {
			bit ^= int(b) >> ((i + n) % 8) & 1
		}
		out |= byte(bit) << i
	}
	return out
}

func everyByte(do func(a byte)) {
	for a := range 256 {
		do(byte(a))
	}
}

func TestP3_1Product(t *testing.T) {
	for _, c := range [][3]byte{
		{0x57, 0x83, 0xc1}, {0x57, 0x13, 0xfe}, {0x57, 0x02, 0xae}, {0x57, 0x10, 0x07},
		{0x80, 0x02, 0x1b}, {0x80, 0x80, 0x9a}, {0xff, 0xff, 0x13}, {0, 0xff, 0}, {0xff, 0, 0}, {0xff, 1, 0xff}, {1, 0xff, 0xff}, {0, 0, 0},
	} {
		if got := aes.Product(c[0], c[1]); got != c[2] {
			t.Errorf("Product(%#x, %#x) = %#x instead of %#x", c[0], c[1], got, c[2])
		}
	}
	everyByte(func(a byte) {
		everyByte(func(b byte) {
			if got, want := aes.Product(a, b), slowProduct(a, b); got != want {
				t.Errorf("Product(%#x, %#x) = %#x instead of %#x", a, b, got, want)
			}
		})
	})
}

func TestP3_1Inverse(t *testing.T) {
	for a, want := range map[byte]byte{0x53: 0xca, 0xca: 0x53, 0: 0, 1: 1, 2: 0x8d, 3: 0xf6, 0xff: 0x1c} {
		if got := aes.Inverse(a); got != want {
			t.Errorf("Inverse(%#x) = %#x instead of %#x", a, got, want)
		}
	}
	everyByte(func(a byte) {
		if got, want := aes.Inverse(a), slowInverse(a); got != want {
			t.Errorf("Inverse(%#x) = %#x instead of %#x", a, got, want)
		}
	})
}

func TestP3_2(t *testing.T) {
	for a, want := range map[byte]byte{0x53: 0xed, 0: 0x63, 1: 0x7c, 0x52: 0, 0x63: 0xfb, 0x9a: 0xb8, 0xff: 0x16} {
		if got := aes.Sub(a); got != want {
			t.Errorf("Sub(%#x) = %#x instead of %#x", a, got, want)
		}
		if got := aes.Unsub(want); got != a {
			t.Errorf("Unsub(%#x) = %#x instead of %#x", want, got, a)
		}
	}
	everyByte(func(a byte) {
		want := slowSub(a)
		if got := aes.Sub(a); got != want {
			t.Errorf("Sub(%#x) = %#x instead of %#x", a, got, want)
		}
		if got := aes.Unsub(want); got != a {
			t.Errorf("Unsub(%#x) = %#x instead of %#x", want, got, a)
		}
	})
}

func TestP3_9Bytes(t *testing.T) {
	everyByte(func(a byte) {
		if aes.Unsub(aes.Sub(a)) != a || aes.Sub(aes.Unsub(a)) != a {
			t.Errorf("%#x is not brought back", a)
		}
		if s := aes.Sub(a); s == a || s == ^a {
			t.Errorf("Sub(%#x) = %#x", a, s)
		}
	})
}

func TestP3_10(t *testing.T) {
	everyByte(func(a byte) {
		if aes.Product(a, 1) != a || aes.Product(1, a) != a {
			t.Errorf("%#x by 1", a)
		}
		if one := aes.Product(a, aes.Inverse(a)); a != 0 && one != 1 || a == 0 && one != 0 {
			t.Errorf("%#x by its inverse is %#x", a, one)
		}
		everyByte(func(b byte) {
			if aes.Product(a, b) != aes.Product(b, a) {
				t.Errorf("%#x by %#x the other way round", a, b)
			}
			for _, c := range []byte{0, 1, 2, 3, 0x1b, 0x53, 0x80, 0x8d, 0xfe, 0xff} {
				if aes.Product(a, aes.Product(b, c)) != aes.Product(aes.Product(a, b), c) {
					t.Errorf("%#x, %#x, %#x: brackets", a, b, c)
				}
				if aes.Product(a, b^c) != aes.Product(a, b)^aes.Product(a, c) {
					t.Errorf("%#x, %#x, %#x: a sum", a, b, c)
				}
			}
		})
	})
}
