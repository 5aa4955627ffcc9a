package gf

import (
	"slices"

	"strongroom/api"
)

// Dot adds the products of two lists' elements up.
func Dot(a, b []byte) (byte, api.Errno) {
	if len(a) != len(b) || len(a) > api.MaxPoints {
		return 0, api.ErrPoints
	}
	var sum byte
	for i := range a {
		sum ^= Mul(a[i], b[i])
	}
	return sum, api.OK
}

// Scale gives a list times an element.
func Scale(l []byte, by byte) []byte {
	product := multiples(by)
	out := make([]byte, len(l))
	for i, a := range l {
		out[i] = product[a]
	}
	return out
}

// multiples works out the product of each element with one: a long list is scaled sooner by looking them up.
func multiples(of byte) [api.MaxPoints]byte {
	var table [api.MaxPoints]byte
	for bit := 1; bit < len(table); bit <<= 1 {
		for low := range bit {
			table[bit+low] = table[low] ^ of
		}
		of = double(of)
	}
	return table
}

// downward goes through a polynomial, the highest power first, and does at each what it is handed. It looks at a coefficient only when its turn has come: a division changes those that are still ahead.
func downward(p []byte, do func(power int, c byte)) {
	for power := len(p) - 1; power >= 0; power-- {
		do(power, p[power])
	}
}

// addShifted adds p, times c and times the power shift of x, to a sum that is long enough.
func addShifted(sum, p []byte, c byte, shift int) {
	product := multiples(c)
	downward(p, func(power int, d byte) { sum[power+shift] ^= product[d] })
}

// trimmed leaves the noughts behind the last other coefficient away.
func trimmed(p []byte) []byte {
	n := len(p)
	for n > 0 && p[n-1] == 0 {
		n--
	}
	return p[:n]
}

// Eval gives a polynomial's value at a place, the coefficient of the power 0 first.
func Eval(coeffs []byte, x byte) byte {
	product := multiples(x)
	var value byte
	downward(coeffs, func(_ int, c byte) { value = product[value] ^ c })
	return value
}

// Times multiplies two polynomials.
func Times(a, b []byte) ([]byte, api.Errno) {
	a, b = trimmed(a), trimmed(b)
	if max(len(a), len(b)) > api.MaxPoints {
		return nil, api.ErrPoints
	}
	return trimmed(multiplied(a, b)), api.OK
}

func multiplied(a, b []byte) []byte {
	sum := make([]byte, len(a)+len(b))
	downward(a, func(power int, c byte) { addShifted(sum, b, c, power) })
	return sum
}

// Over divides a polynomial by another one: what comes out, and the rest.
func Over(a, b []byte) ([]byte, []byte, api.Errno) {
	a, b = trimmed(a), trimmed(b)
	if max(len(a), len(b)) > api.MaxPoints {
		return nil, nil, api.ErrPoints
	}
	if len(b) == 0 {
		return nil, nil, api.ErrNought
	}
	top := len(b) - 1
	turned, _ := Inv(b[top])
	quotient, rest := make([]byte, len(a)), slices.Clone(a)
	downward(rest, func(power int, c byte) {
		if power < top {
			return
		}
		times := Mul(c, turned)
		quotient[power-top] = times
		addShifted(rest, b, times, power-top)
	})
	return trimmed(quotient), trimmed(rest), api.OK
}

// Through gives the polynomial of the least degree through points.
func Through(points []api.Point) ([]byte, api.Errno) {
	if len(points) > api.MaxPoints {
		return nil, api.ErrPoints
	}
	through := make([]byte, len(points))
	// The polynomial zeros is nought at the places met so far and nowhere else: a multiple of it brings the next point in and leaves the earlier ones as they are.
	zeros := []byte{1}
	for _, p := range points {
		times, e := Div(Add(p.Y, Eval(through, p.X)), Eval(zeros, p.X))
		if e != api.OK {
			return nil, api.ErrTwice
		}
		addShifted(through, zeros, times, 0)
		zeros = trimmed(multiplied(zeros, []byte{p.X, 1}))
	}
	return trimmed(through), api.OK
}
