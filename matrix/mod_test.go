package matrix_test

import (
	"math"
	"math/big"
	"testing"

	"strongroom/api"
	"strongroom/matrix"
)

// numbers gives some that Mod's methods are asked with: around nought, around the prime, and around the greatest there is.
func numbers(p uint32) []uint32 {
	var all []uint32
	for n := range uint32(12) {
		all = append(all, n, p-6+n, 2*p-6+n, math.MaxUint32-n, 1<<31-6+n, 1<<16-6+n, n*0x13579bdf)
	}
	return all
}

func primes() []uint32 { return []uint32{2, 3, 5, 7, 251, 257, 65521, 65537, 1000003, 1<<31 - 1} }

// modulo reckons with whole numbers of any size first and takes the rest last.
func modulo(x *big.Int, p uint32) uint32 {
	return uint32(new(big.Int).Mod(x, big.NewInt(int64(p))).Uint64())
}

func whole(x uint32) *big.Int { return big.NewInt(int64(x)) }

func TestP7_1Examples(t *testing.T) {
	f := mod(t, 7)
	if f.Add(5, 4) != 2 || f.Sub(2, 5) != 4 || f.Mul(10, 3) != 2 || f.Zero() != 0 || f.One() != 1 {
		t.Error(f.Add(5, 4), f.Sub(2, 5), f.Mul(10, 3), f.Zero(), f.One())
	}
	if x, is := f.Inverse(3); x != 5 || !is {
		t.Error(x, is)
	}
	if x, is := f.Inverse(14); x != 0 || is {
		t.Error(x, is)
	}
}

func TestP7_1Primes(t *testing.T) {
	for p := range uint32(5000) {
		want := api.ErrPrime
		if whole(p).ProbablyPrime(20) {
			want = api.OK
		}
		if f, e := matrix.NewMod(p); e != want || (f == nil) != (e != api.OK) {
			t.Error(p, f, e)
		}
	}
	for _, p := range primes() {
		if f, e := matrix.NewMod(p); e != api.OK || f == nil {
			t.Error(p, e)
		}
	}
	// The last two are primes, but above the greatest that is taken; the squares have no other divisor than their roots.
	for _, p := range []uint32{0, 1, 4, 9, 1 << 16, 65521 * 3, 251 * 251, 46337 * 46337, 46327 * 46337, 1<<31 - 2, 1 << 31, 1<<31 + 1, math.MaxUint32, 1<<31 + 11, 4294967291} {
		if f, e := matrix.NewMod(p); e != api.ErrPrime || f != nil {
			t.Error(p, f, e)
		}
	}
}

func TestP7_1Methods(t *testing.T) {
	for _, p := range primes() {
		f := mod(t, p)
		if f.Zero() != 0 || f.One() != 1 {
			t.Error(p, f.Zero(), f.One())
		}
		for _, a := range numbers(p) {
			for _, b := range numbers(p) {
				x, y := whole(a), whole(b)
				if got := f.Add(a, b); got != modulo(new(big.Int).Add(x, y), p) {
					t.Error("Add", p, a, b, got)
				}
				if got := f.Sub(a, b); got != modulo(new(big.Int).Sub(x, y), p) {
					t.Error("Sub", p, a, b, got)
				}
				if got := f.Mul(a, b); got != modulo(new(big.Int).Mul(x, y), p) {
					t.Error("Mul", p, a, b, got)
				}
			}
			inverse(t, f, p, a)
		}
	}
}

func inverse(t *testing.T, f *matrix.Mod, p, a uint32) {
	t.Helper()
	want := new(big.Int).ModInverse(whole(a), whole(p))
	got, is := f.Inverse(a)
	if want == nil && (got != 0 || is) {
		t.Error("Inverse", p, a, got, is)
	}
	if want != nil && (got != modulo(want, p) || !is) {
		t.Error("Inverse", p, a, got, is, want)
	}
}

func TestP7_1NotMade(t *testing.T) {
	for _, f := range []*matrix.Mod{nil, {}, new(matrix.Mod)} {
		if f.Zero() != 0 || f.One() != 0 {
			t.Error(f.Zero(), f.One())
		}
		for _, a := range numbers(7) {
			for _, b := range numbers(7) {
				if f.Add(a, b) != 0 || f.Sub(a, b) != 0 || f.Mul(a, b) != 0 {
					t.Error(a, b, f.Add(a, b), f.Sub(a, b), f.Mul(a, b))
				}
			}
			if x, is := f.Inverse(a); x != 0 || is {
				t.Error(a, x, is)
			}
		}
	}
}
