package gf_test

import (
	"math"
	"math/big"
	"testing"

	"strongroom/api"
	"strongroom/gf"
)

// theirs multiplies as the document's words say: the product of the polynomials first, then the rest of a division by x^8 + x^4 + x^3 + x^2 + 1.
func theirs(a, b byte) byte {
	product := 0
	for i := range 8 {
		if b>>i&1 == 1 {
			product ^= int(a) << i
		}
	}
	for i := 14; i >= 8; i-- {
		if product>>i&1 == 1 {
			product ^= 0b1_0001_1101 << (i - 8)
		}
	}
	return byte(product)
}

// raised multiplies a with itself n times.
func raised(a byte, n int) byte {
	power := byte(1)
	for range n {
		power = theirs(power, a)
	}
	return power
}

func TestP6_1Examples(t *testing.T) {
	if gf.Add(5, 3) != 6 || gf.Mul(2, 128) != 29 || gf.Mul(7, 7) != 21 {
		t.Error(gf.Add(5, 3), gf.Mul(2, 128), gf.Mul(7, 7))
	}
	if x, e := gf.Inv(2); x != 142 || e != api.OK {
		t.Error(x, e)
	}
	if x, e := gf.Div(1, 3); x != 244 || e != api.OK {
		t.Error(x, e)
	}
	if x, e := gf.Div(0, 9); x != 0 || e != api.OK {
		t.Error(x, e)
	}
}

func TestP6_1AllPairs(t *testing.T) {
	for i := range 1 << 16 {
		a, b := byte(i>>8), byte(i)
		if got := gf.Add(a, b); got != a^b {
			t.Fatalf("Add(%d, %d) = %d", a, b, got)
		}
		if got := gf.Mul(a, b); got != theirs(a, b) {
			t.Fatalf("Mul(%d, %d) = %d, want %d", a, b, got, theirs(a, b))
		}
		if b == 0 {
			continue
		}
		if got, e := gf.Div(a, b); theirs(got, b) != a || e != api.OK {
			t.Fatalf("Div(%d, %d) = %d, %d", a, b, got, e)
		}
	}
}

func TestP6_1Inverses(t *testing.T) {
	for a := 1; a < 256; a++ {
		if x, e := gf.Inv(byte(a)); theirs(x, byte(a)) != 1 || e != api.OK {
			t.Errorf("Inv(%d) = %d, %d", a, x, e)
		}
	}
}

func TestP6_1Nought(t *testing.T) {
	if x, e := gf.Inv(0); x != 0 || e != api.ErrNought {
		t.Error(x, e)
	}
	for a := range 256 {
		if x, e := gf.Div(byte(a), 0); x != 0 || e != api.ErrNought {
			t.Errorf("Div(%d, 0) = %d, %d", a, x, e)
		}
	}
}

// exponents gives whole numbers: those around nought and around the ends of the ints.
func exponents() []int {
	var all []int
	for n := -600; n <= 600; n++ {
		all = append(all, n)
	}
	for n := range 300 {
		all = append(all, math.MinInt+n, math.MaxInt-n)
	}
	return append(all, math.MaxInt32, math.MinInt32, 1<<40, -1<<40)
}

// rest gives what is left of n modulo 255, from 0 to 254.
func rest(n int) int {
	return int(new(big.Int).Mod(big.NewInt(int64(n)), big.NewInt(255)).Int64())
}

func TestP6_2Exp(t *testing.T) {
	for n, want := range map[int]byte{0: 1, 8: 29, 255: 1, -1: 142} {
		if got := gf.Exp(n); got != want {
			t.Errorf("Exp(%d) = %d, want %d", n, got, want)
		}
	}
	for _, n := range exponents() {
		if got := gf.Exp(n); got != raised(2, rest(n)) {
			t.Errorf("Exp(%d) = %d, want %d", n, got, raised(2, rest(n)))
		}
	}
}

func TestP6_2Log(t *testing.T) {
	for a, want := range map[byte]int{29: 8, 1: 0, 2: 1, 142: 254} {
		if got, e := gf.Log(a); got != want || e != api.OK {
			t.Errorf("Log(%d) = %d, %d", a, got, e)
		}
	}
	for n := range 255 {
		if got, e := gf.Log(raised(2, n)); got != n || e != api.OK {
			t.Errorf("Log of the power %d = %d, %d", n, got, e)
		}
	}
	if got, e := gf.Log(0); got != 0 || e != api.ErrNought {
		t.Error(got, e)
	}
}

func TestP6_2Pow(t *testing.T) {
	for _, n := range exponents() {
		for a := 1; a < 256; a++ {
			// The power 255 of every element but nought is one.
			if got, e := gf.Pow(byte(a), n); got != power(byte(a), rest(n)) || e != api.OK {
				t.Fatalf("Pow(%d, %d) = %d, %d", a, n, got, e)
			}
		}
		switch got, e := gf.Pow(0, n); {
		case n < 0 && (got != 0 || e != api.ErrNought):
			t.Errorf("Pow(0, %d) = %d, %d", n, got, e)
		case n == 0 && (got != 1 || e != api.OK):
			t.Errorf("Pow(0, 0) = %d, %d", got, e)
		case n > 0 && (got != 0 || e != api.OK):
			t.Errorf("Pow(0, %d) = %d, %d", n, got, e)
		}
	}
}

// power is raised by squares: the tests ask for many.
func power(a byte, n int) byte {
	out := byte(1)
	for ; n > 0; n >>= 1 {
		if n&1 == 1 {
			out = theirs(out, a)
		}
		a = theirs(a, a)
	}
	return out
}

func TestP6_2PowSteps(t *testing.T) {
	for a := range 256 {
		up, down := byte(1), byte(1)
		turned, _ := gf.Inv(byte(a))
		for n := range 520 {
			if got, e := gf.Pow(byte(a), n); got != up || e != api.OK {
				t.Fatalf("Pow(%d, %d) = %d, %d", a, n, got, e)
			}
			if got, e := gf.Pow(byte(a), -n); a > 0 && (got != down || e != api.OK) {
				t.Fatalf("Pow(%d, %d) = %d, %d", a, -n, got, e)
			}
			up, down = theirs(up, byte(a)), theirs(down, turned)
		}
	}
}

// field is what layer 7 asks for.
type field interface {
	Zero() byte
	One() byte
	Add(a, b byte) byte
	Sub(a, b byte) byte
	Mul(a, b byte) byte
	Inverse(a byte) (byte, bool)
}

func TestP6_7(t *testing.T) {
	var f field = gf.Field{}
	if f.Zero() != 0 || f.One() != 1 {
		t.Error(f.Zero(), f.One())
	}
	for i := range 1 << 16 {
		a, b := byte(i>>8), byte(i)
		if f.Add(a, b) != a^b || f.Sub(a, b) != a^b || f.Mul(a, b) != theirs(a, b) {
			t.Fatal(a, b, f.Add(a, b), f.Sub(a, b), f.Mul(a, b))
		}
	}
	for a := 1; a < 256; a++ {
		if x, is := f.Inverse(byte(a)); theirs(x, byte(a)) != 1 || !is {
			t.Error(a, x, is)
		}
	}
	if x, is := f.Inverse(0); x != 0 || is {
		t.Error(x, is)
	}
}

func TestP6_8(t *testing.T) {
	var product [256][256]byte
	for i := range 1 << 16 {
		product[i>>8][i&255] = gf.Mul(byte(i>>8), byte(i))
	}
	for i := range 1 << 16 {
		a, b := byte(i>>8), byte(i)
		ab := product[a][b]
		if ab != product[b][a] || gf.Add(a, b) != gf.Add(b, a) {
			t.Fatal("order", a, b)
		}
		if (ab == 0) != (a == 0 || b == 0) {
			t.Fatal("nought", a, b)
		}
		for n := range 256 {
			c := byte(n)
			if product[ab][c] != product[a][product[b][c]] || gf.Add(gf.Add(a, b), c) != gf.Add(a, gf.Add(b, c)) {
				t.Fatal("grouping", a, b, c)
			}
			if product[a][gf.Add(b, c)] != gf.Add(ab, product[a][c]) {
				t.Fatal("products of sums", a, b, c)
			}
		}
	}
	for a := 1; a < 256; a++ {
		if x, e := gf.Inv(byte(a)); e != api.OK || product[a][x] != 1 {
			t.Error("inverse", a)
		}
		if gf.Add(byte(a), 0) != byte(a) || product[a][1] != byte(a) || gf.Add(byte(a), byte(a)) != 0 {
			t.Error("nought, one, opposite", a)
		}
	}
}

func TestP6_9(t *testing.T) {
	for a := 1; a < 256; a++ {
		n, _ := gf.Log(byte(a))
		if n < 0 || n > 254 || gf.Exp(n) != byte(a) {
			t.Error(a, n, gf.Exp(n))
		}
		for b := 1; b < 256; b++ {
			m, _ := gf.Log(byte(b))
			if gf.Mul(byte(a), byte(b)) != gf.Exp(n+m) {
				t.Fatal(a, b)
			}
		}
	}
}
