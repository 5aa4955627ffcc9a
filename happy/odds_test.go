package happy_test

import (
	"math"
	"math/big"
	"math/rand"
	"slices"
	"testing"

	"strongroom/api"
	"strongroom/happy"
)

func wantOdds(t *testing.T, lasts []float64, k int, want float64) {
	t.Helper()
	if got, e := happy.Odds(lasts, k); math.Float64bits(got) != math.Float64bits(want) || e != api.OK {
		t.Errorf("Odds(%v, %d): %v, %d instead of %v", lasts, k, got, e, want)
	}
}

func wantNoOdds(t *testing.T, lasts []float64, k int) {
	t.Helper()
	if got, e := happy.Odds(lasts, k); got != 0 || e != api.ErrOdds {
		t.Errorf("Odds(%v, %d): %v, %d", lasts, k, got, e)
	}
}

func wantLasts(t *testing.T, pairs []api.Pair, servers []float64, k int, want float64) {
	t.Helper()
	if got, e := happy.Lasts(pairs, servers, k); math.Float64bits(got) != math.Float64bits(want) || e != api.OK {
		t.Errorf("Lasts(%v, %v, %d): %v, %d instead of %v", pairs, servers, k, got, e, want)
	}
}

func wantNoLasts(t *testing.T, pairs []api.Pair, servers []float64, k int, want api.Errno) {
	t.Helper()
	if got, e := happy.Lasts(pairs, servers, k); got != 0 || e != want {
		t.Errorf("Lasts(%v, %v, %d): %v, %d instead of %d", pairs, servers, k, got, e, want)
	}
}

// noOdds gives what is not from 0 to 1.
func noOdds() []float64 {
	return []float64{-math.SmallestNonzeroFloat64, -0.1, -1, math.Nextafter(1, 2), 1.5, 2, 1e300, -1e300, math.Inf(1), math.Inf(-1), math.NaN()}
}

// group is so many things that last together, with one probability.
type group struct {
	count int
	x     float64
}

// rounded is a number of the library's that is rounded to a float's 53 bits behind each operation, and never fused.
func rounded(x float64) *big.Float { return new(big.Float).SetPrec(53).SetFloat64(x) }

func plus(a, b *big.Float) *big.Float { return rounded(0).Add(a, b) }

func times(a, b *big.Float) *big.Float { return rounded(0).Mul(a, b) }

// reckoned works out how likely k things or more last, each operation rounded by itself: float64 hears nothing of it but at the end.
func reckoned(groups []group, k int) float64 {
	n := 0
	for _, g := range groups {
		n += g.count
	}
	p := make([]*big.Float, n+1)
	for j := range p {
		p[j] = rounded(0)
	}
	p[0] = rounded(1)
	for _, g := range groups {
		x := rounded(g.x)
		y := rounded(0).Sub(rounded(1), x)
		next := make([]*big.Float, n+1)
		for j := range p {
			next[j] = times(p[j], y)
			if j >= g.count {
				next[j] = plus(next[j], times(p[j-g.count], x))
			}
		}
		p = next
	}
	sum := rounded(0)
	for j := n; j >= 0 && j >= k; j-- {
		sum = plus(sum, p[j])
	}
	got, _ := sum.Float64()
	return got
}

// ones gives a group of one for each thing.
func ones(lasts []float64) []group {
	var out []group
	for _, x := range lasts {
		out = append(out, group{1, x})
	}
	return out
}

func drawnOdds(r *rand.Rand, n int) []float64 {
	out := make([]float64, n)
	for i := range out {
		out[i] = r.Float64()
		if r.Intn(8) == 0 {
			out[i] = float64(r.Intn(2))
		}
	}
	return out
}

func TestP23_4Odds(t *testing.T) {
	for _, c := range []struct {
		lasts []float64
		k     int
		want  float64
	}{
		{nil, 0, 1}, {nil, 1, 0}, {nil, -1, 1}, {[]float64{}, 0, 1},
		{nil, math.MaxInt, 0}, {nil, math.MinInt, 1},
		{[]float64{0.25}, 1, 0.25}, {[]float64{0.25}, 0, 1}, {[]float64{0.25}, 2, 0},
		{[]float64{0.5, 0.25}, 1, 0.625}, {[]float64{0.5, 0.25}, 2, 0.125},
		{[]float64{0.5, 0.5, 0.5}, 2, 0.5}, {[]float64{0.5, 0.5, 0.5}, 3, 0.125},
		{[]float64{0.5, 0.5}, math.MaxInt, 0}, {[]float64{0.5, 0.5}, math.MinInt, 1},
		{[]float64{0.5, 0.5}, 2, 0.25},
		// What is so little that a float hardly has it.
		{[]float64{math.SmallestNonzeroFloat64}, 1, math.SmallestNonzeroFloat64},
		{[]float64{math.SmallestNonzeroFloat64, math.SmallestNonzeroFloat64}, 2, 0},
		{[]float64{math.SmallestNonzeroFloat64}, 0, 1},
		{[]float64{math.Nextafter(1, 0)}, 1, math.Nextafter(1, 0)},
	} {
		wantOdds(t, c.lasts, c.k, c.want)
	}
}

func TestP23_4EachOperationRounded(t *testing.T) {
	r := rand.New(rand.NewSource(41))
	for range 200 {
		lasts := drawnOdds(r, r.Intn(30))
		for _, k := range []int{-3, 0, 1, len(lasts) / 2, len(lasts) - 1, len(lasts), len(lasts) + 1} {
			wantOdds(t, lasts, k, reckoned(ones(lasts), k))
		}
	}
}

// The sum of all need not be 1, and the order of the things is to be seen in the last bits.
func TestP23_4OrderCounts(t *testing.T) {
	r := rand.New(rand.NewSource(42))
	sums, orders := 0, 0
	for range 50 {
		lasts := drawnOdds(r, 12)
		back := slices.Clone(lasts)
		slices.Reverse(back)
		wantOdds(t, lasts, 0, reckoned(ones(lasts), 0))
		wantOdds(t, back, 6, reckoned(ones(back), 6))
		if reckoned(ones(lasts), 0) != 1 {
			sums++
		}
		if reckoned(ones(lasts), 6) != reckoned(ones(back), 6) {
			orders++
		}
	}
	if sums == 0 || orders == 0 {
		t.Errorf("no list by which an order can be told: %d, %d", sums, orders)
	}
}

// Held against all ways in which things may last, without any rounding.
func TestP23_4NearTheTruth(t *testing.T) {
	r := rand.New(rand.NewSource(43))
	for range 40 {
		lasts := drawnOdds(r, 1+r.Intn(8))
		for k := -1; k <= len(lasts)+1; k++ {
			truth := new(big.Rat)
			for which := range 1 << len(lasts) {
				odds, count := big.NewRat(1, 1), 0
				for i, x := range lasts {
					part := new(big.Rat).SetFloat64(x)
					if which>>i&1 == 0 {
						part.Sub(big.NewRat(1, 1), part)
					} else {
						count++
					}
					odds.Mul(odds, part)
				}
				if count >= k {
					truth.Add(truth, odds)
				}
			}
			want, _ := truth.Float64()
			if got, e := happy.Odds(lasts, k); math.Abs(got-want) > 1e-12 || e != api.OK {
				t.Errorf("Odds(%v, %d): %v, %d, and the truth is %v", lasts, k, got, e, want)
			}
		}
	}
}

func TestP23_4Many(t *testing.T) {
	r := rand.New(rand.NewSource(44))
	lasts := make([]float64, 300)
	for i := range lasts {
		lasts[i] = 0.25 + r.Float64()/2
	}
	for _, k := range []int{0, 100, 150, 200} {
		wantOdds(t, lasts, k, reckoned(ones(lasts), k))
	}
}

func TestP23_4Refused(t *testing.T) {
	for _, bad := range noOdds() {
		for _, k := range []int{math.MinInt, -1, 0, 1, 2, 5, math.MaxInt} {
			wantNoOdds(t, []float64{bad}, k)
			wantNoOdds(t, []float64{bad, 0.5, 1}, k)
			wantNoOdds(t, []float64{0, bad, 1}, k)
			wantNoOdds(t, []float64{0.5, 1, bad}, k)
		}
	}
	// A nought with the sign of less is from 0 to 1, too.
	low := math.Copysign(0, -1)
	wantOdds(t, []float64{low}, 1, 0)
	wantOdds(t, []float64{low, 1, 0.5}, 1, 1)
	wantOdds(t, []float64{0.5, low, low}, 1, 0.5)
}

// laid gives each number a server, of those that probabilities are given for, and the groups that come of it by rising server.
func laid(r *rand.Rand, servers []float64, numbers int) ([]api.Pair, []group) {
	var pairs []api.Pair
	counts := make([]int, len(servers))
	for _, number := range r.Perm(api.MaxN)[:numbers] {
		server := r.Intn(min(len(servers), api.MaxServers))
		counts[server]++
		for range 1 + r.Intn(2) {
			pairs = append(pairs, api.Pair{Server: server, Number: number})
		}
	}
	r.Shuffle(len(pairs), func(i, j int) { pairs[i], pairs[j] = pairs[j], pairs[i] })
	var groups []group
	for server, c := range counts {
		if c > 0 {
			groups = append(groups, group{c, servers[server]})
		}
	}
	return pairs, groups
}

func TestP23_5Lasts(t *testing.T) {
	l := of(0, 0, 0, 1, 1, 2)
	for _, c := range []struct {
		pairs   []api.Pair
		servers []float64
		k       int
		want    float64
	}{
		{nil, nil, 0, 1}, {nil, nil, 1, 0}, {nil, nil, -1, 1}, {nil, []float64{0.5}, 0, 1}, {nil, []float64{0.5}, 1, 0},
		{l, []float64{0.5, 0.25}, 0, 1}, {l, []float64{0.5, 0.25}, -7, 1}, {l, []float64{0.5, 0.25}, math.MinInt, 1},
		{l, []float64{0.5, 0.25}, 1, 0.625}, {l, []float64{0.5, 0.25}, 2, 0.5}, {l, []float64{0.5, 0.25}, 3, 0.125},
		{l, []float64{0.5, 0.25}, 4, 0}, {l, []float64{0.5, 0.25}, math.MaxInt, 0},
		{of(0, 7, 0, 7), []float64{0.5}, 1, 0.5}, {of(0, 7, 0, 7), []float64{0.5}, 2, 0},
		// A server without numbers has no part in it.
		{of(0, 0, 2, 254), []float64{0.5, 0.125, 0.25}, 1, 0.625},
		{of(2, 0, 2, 1, 2, 2), []float64{0, 0, 0.25, 1}, 3, 0.25},
		{of(2, 0, 2, 1, 2, 2), []float64{0, 0, 0.25, 1}, 1, 0.25},
		{of(31, 254), append(make([]float64, 31), 0.5), 1, 0.5},
		{of(0, 0), append([]float64{0.5}, make([]float64, 400)...), 1, 0.5},
	} {
		wantLasts(t, c.pairs, c.servers, c.k, c.want)
	}
}

func TestP23_5EachOperationRounded(t *testing.T) {
	r := rand.New(rand.NewSource(51))
	for range 200 {
		servers := drawnOdds(r, 1+r.Intn(40))
		n := r.Intn(40)
		pairs, groups := laid(r, servers, n)
		for _, k := range []int{-3, 0, 1, n / 2, n - 1, n, n + 1} {
			wantLasts(t, pairs, servers, k, reckoned(groups, k))
		}
	}
	servers := drawnOdds(r, 32)
	pairs, groups := laid(r, servers, api.MaxN)
	for _, k := range []int{0, 1, 100, 128, 200, 255, 256} {
		wantLasts(t, pairs, servers, k, reckoned(groups, k))
	}
}

func TestP23_5OnTwoServers(t *testing.T) {
	servers := slices.Repeat([]float64{0.5}, 40)
	for _, l := range [][]api.Pair{
		of(0, 0, 1, 0), of(1, 0, 0, 0), of(0, 254, 31, 254), of(0, 0, 0, 1, 1, 2, 1, 1), of(5, 9, 3, 9, 1, 9), of(0, 3, 1, 4, 0, 3, 1, 3),
	} {
		for _, k := range []int{-1, 0, 1, 5} {
			wantNoLasts(t, l, servers, k, api.ErrPairs)
			wantNoLasts(t, l, append(servers, 2), k, api.ErrPairs)
		}
	}
	for _, p := range every() {
		wantNoLasts(t, []api.Pair{p, {Server: (p.Server + 1) % api.MaxServers, Number: p.Number}}, servers, 1, api.ErrPairs)
	}
}

func TestP23_5NoSuchServer(t *testing.T) {
	for n := range api.MaxServers {
		servers := slices.Repeat([]float64{0.5}, n)
		for server := range api.MaxServers {
			if server < n {
				wantLasts(t, of(server, 3), servers, 1, 0.5)
				continue
			}
			wantNoLasts(t, of(server, 3), servers, 1, api.ErrPairs)
			if n > 0 {
				wantNoLasts(t, of(0, 2, server, 3), servers, 1, api.ErrPairs)
				bad := append(slices.Clone(servers[:n-1]), 7)
				wantNoLasts(t, of(0, 2, server, 3), bad, 1, api.ErrPairs)
			}
		}
	}
}

func TestP23_5NoProbability(t *testing.T) {
	for _, bad := range noOdds() {
		for _, k := range []int{-1, 0, 1, 9} {
			wantNoLasts(t, nil, []float64{bad}, k, api.ErrOdds)
			wantNoLasts(t, of(0, 0), []float64{bad}, k, api.ErrOdds)
			wantNoLasts(t, of(0, 0), []float64{1, bad}, k, api.ErrOdds)
			wantNoLasts(t, of(1, 0), []float64{bad, 1}, k, api.ErrOdds)
			wantNoLasts(t, of(0, 0), append(slices.Repeat([]float64{1}, 50), bad), k, api.ErrOdds)
		}
	}
	wantLasts(t, of(0, 0), []float64{math.Copysign(0, -1)}, 1, 0)
}

func TestP23_8OneNumberEach(t *testing.T) {
	r := rand.New(rand.NewSource(8))
	for range 100 {
		servers := drawnOdds(r, 32)
		numbers := r.Perm(api.MaxN)
		var pairs []api.Pair
		var having []float64
		for server, x := range servers {
			if r.Intn(2) == 0 {
				pairs = append(pairs, api.Pair{Server: server, Number: numbers[server]})
				having = append(having, x)
			}
		}
		r.Shuffle(len(pairs), func(i, j int) { pairs[i], pairs[j] = pairs[j], pairs[i] })
		for k := -1; k <= len(pairs)+1; k++ {
			want, e := happy.Odds(having, k)
			if e != api.OK {
				t.Fatalf("Odds(%v, %d): %d", having, k, e)
			}
			wantLasts(t, pairs, servers, k, want)
		}
	}
}

func TestP23_8Certain(t *testing.T) {
	r := rand.New(rand.NewSource(88))
	for range 100 {
		lasts := make([]float64, 1+r.Intn(20))
		count := 0
		for i := range lasts {
			lasts[i] = float64(r.Intn(2))
			count += int(lasts[i])
		}
		pairs, groups := laid(r, lasts, r.Intn(60))
		numbers := 0
		for _, g := range groups {
			numbers += g.count * int(g.x)
		}
		for k := -1; k <= 61; k++ {
			wantOdds(t, lasts, k, certain(count >= k))
			wantLasts(t, pairs, lasts, k, certain(numbers >= k))
		}
	}
}

func certain(is bool) float64 {
	if is {
		return 1
	}
	return 0
}

func TestR3OddsStay(t *testing.T) {
	room := []float64{0.5, 0.25, 0.125, 7, -7}
	was := slices.Clone(room)
	wantOdds(t, room[:2], 2, 0.125)
	wantLasts(t, of(0, 0, 1, 1, 1, 2), room[:3], 3, 0.125)
	wantNoOdds(t, room, 1)
	wantNoLasts(t, of(0, 0), room, 1, api.ErrOdds)
	if !slices.Equal(room, was) {
		t.Errorf("probabilities are %v instead of %v", room, was)
	}
}
