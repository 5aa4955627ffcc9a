package happy

import (
	"math/bits"

	"strongroom/api"
)

// tally holds in place j how likely just j things last, of those that were counted in.
type tally []float64

// newTally gives a tally with places for up to n things, of which none is counted in yet.
func newTally(n int) tally {
	p := make(tally, n+1)
	p[0] = 1
	return p
}

// countIn counts c things in that last together or not at all, x being how likely they do.
func (p tally) countIn(c int, x float64) {
	y := 1 - x
	for j := len(p) - 1; j >= c; j-- {
		// The conversions keep the machine from rounding a product and the sum in one.
		p[j] = float64(p[j]*y) + float64(p[j-c]*x)
	}
	for j := c - 1; j >= 0; j-- {
		p[j] *= y
	}
}

// atLeast tells how likely k things or more last.
func (p tally) atLeast(k int) float64 {
	sum := 0.0
	for j := len(p) - 1; j >= max(k, 0); j-- {
		sum += p[j]
	}
	return sum
}

// areOdds tells whether all are from 0 to 1. It asks what must hold, for of no number nothing does.
func areOdds(lasts []float64) bool {
	for _, x := range lasts {
		within := x >= 0 && x <= 1
		if !within {
			return false
		}
	}
	return true
}

// Odds tells how likely at least k of the things last, of which each lasts with its own probability.
func Odds(lasts []float64, k int) (float64, api.Errno) {
	if !areOdds(lasts) {
		return 0, api.ErrOdds
	}
	p := newTally(len(lasts))
	for _, x := range lasts {
		p.countIn(1, x)
	}
	return p.atLeast(k), api.OK
}

// Lasts tells how likely at least k numbers last, where each server lasts with its own probability, and each number lies on one server.
func Lasts(pairs []api.Pair, servers []float64, k int) (float64, api.Errno) {
	l, e := lay(pairs)
	if e != api.OK {
		return 0, e
	}
	counts, e := l.counts(len(servers))
	if e != api.OK {
		return 0, e
	}
	if !areOdds(servers) {
		return 0, api.ErrOdds
	}
	p := newTally(len(l.numbers))
	for server, c := range counts {
		if c > 0 {
			p.countIn(c, servers[server])
		}
	}
	return p.atLeast(k), api.OK
}

// counts tells how many numbers each server has, if each number lies on one server alone, and on one below the given number of servers.
func (l layout) counts(servers int) ([api.MaxServers]int, api.Errno) {
	var counts [api.MaxServers]int
	for _, number := range l.numbers {
		has := l.servers[number]
		server := bits.TrailingZeros32(has)
		if bits.OnesCount32(has) > 1 || server >= servers {
			return [api.MaxServers]int{}, api.ErrPairs
		}
		counts[server]++
	}
	return counts, api.OK
}
