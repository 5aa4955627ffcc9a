package happy

import (
	"math/bits"
	"slices"

	"strongroom/api"
)

// none stands in a matching for no number.
const none = -1

// matching says of each server with which number it is matched. It is an array, so that what is only tried is tried on a copy.
type matching [api.MaxServers]int

// unmatched gives the matching without pairs.
func unmatched() matching {
	var m matching
	for server := range m {
		m[server] = none
	}
	return m
}

func (m matching) size() int {
	size := 0
	for _, number := range m {
		if number != none {
			size++
		}
	}
	return size
}

// pairs gives those of the matching by rising server.
func (m matching) pairs() []api.Pair {
	var out []api.Pair
	for server, number := range m {
		if number != none {
			out = append(out, api.Pair{Server: server, Number: number})
		}
	}
	return out
}

// with gives the matching in which the server has the number, and no other server has it.
func (m matching) with(server, number int) matching {
	if had := slices.Index(m[:], number); had >= 0 {
		m[had] = none
	}
	m[server] = number
	return m
}

// grown gives m with as many pairs as can be, where the fixed servers keep what they have in m. (The bit s of fixed stands for server s.)
func (l layout) grown(m matching, fixed uint32) matching {
	seen := fixed
	var place func(number int) bool
	place = func(number int) bool {
		has := l.servers[number]
		for has&^seen != 0 {
			server := bits.TrailingZeros32(has &^ seen)
			seen |= 1 << server
			if m[server] == none || place(m[server]) {
				m[server] = number
				return true
			}
		}
		return false
	}
	for _, number := range l.numbers {
		// Where no place was found the matching is the same, and the servers seen lead nowhere for the next number either.
		if !slices.Contains(m[:], number) && place(number) {
			seen = fixed
		}
	}
	return m
}

// greatest gives any matching of as many pairs as can be.
func (l layout) greatest() matching { return l.grown(unmatched(), 0) }

// first gives, of all greatest matchings, the one that stands first.
func (l layout) first() matching {
	m := l.greatest()
	for server := range m {
		m = l.settled(m, server)
	}
	return m
}

// settled gives a matching as great as m, a greatest one, with the same numbers for the servers below the given one, which has in it the least number that it can have beside them. If it can have none, it has none in m, either: else that one could be kept.
func (l layout) settled(m matching, server int) matching {
	size := m.size()
	fixed := uint32(1)<<(server+1) - 1 // of the last server 1 is shifted out, and nought less 1 has all bits
	for _, number := range l.numbers {
		if l.servers[number]>>server&1 == 0 || slices.Contains(m[:server], number) {
			continue
		}
		if other := l.grown(m.with(server, number), fixed); other.size() == size {
			return other
		}
	}
	return m
}
