package matrix

import "strongroom/api"

// Mod is the field of the numbers from 0 to a prime less 1.
type Mod struct {
	prime uint32 // nought in a Mod that NewMod did not make
}

// NewMod makes the field of a prime.
func NewMod(p uint32) (*Mod, api.Errno) {
	if p > api.MaxPrime || !isPrime(uint64(p)) {
		return nil, api.ErrPrime
	}
	return &Mod{prime: p}, api.OK
}

func isPrime(p uint64) bool {
	for d := uint64(2); d*d <= p; d++ {
		if p%d == 0 {
			return false
		}
	}
	return p > 1
}

// rest gives a number modulo the prime; the sums and products that it is given need more room than the elements.
func (f *Mod) rest(x uint64) uint32 {
	if f == nil || f.prime == 0 {
		return 0
	}
	return uint32(x % uint64(f.prime))
}

// Zero gives 0.
func (f *Mod) Zero() uint32 { return 0 }

// One gives 1.
func (f *Mod) One() uint32 { return f.rest(1) }

// Add adds.
func (f *Mod) Add(a, b uint32) uint32 { return f.rest(uint64(a) + uint64(b)) }

// Sub takes b from a.
func (f *Mod) Sub(a, b uint32) uint32 {
	less := f.rest(uint64(b))
	if less == 0 {
		return f.rest(uint64(a))
	}
	return f.rest(uint64(a) + uint64(f.prime-less))
}

// Mul multiplies.
func (f *Mod) Mul(a, b uint32) uint32 { return f.rest(uint64(a) * uint64(b)) }

// Inverse gives the number that, times a, is 1.
func (f *Mod) Inverse(a uint32) (uint32, bool) {
	if f.rest(uint64(a)) == 0 {
		return 0, false
	}
	// The power prime - 1 of a is 1, so the one below it is what is looked for.
	out := f.One()
	for n := f.prime - 2; n > 0; n >>= 1 {
		if n&1 == 1 {
			out = f.Mul(out, a)
		}
		a = f.Mul(a, a)
	}
	return out, true
}
