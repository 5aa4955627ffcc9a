package happy_test

import (
	"cmp"
	"math"
	"math/rand"
	"slices"
	"sync"
	"testing"

	"strongroom/api"
	"strongroom/happy"
)

// of gives pairs, of servers and numbers by turns.
func of(l ...int) []api.Pair {
	var out []api.Pair
	for i := 0; i < len(l); i += 2 {
		out = append(out, api.Pair{Server: l[i], Number: l[i+1]})
	}
	return out
}

func look(t *testing.T, pairs []api.Pair) api.Spread {
	t.Helper()
	s, e := happy.Look(pairs)
	if e != api.OK {
		t.Fatalf("Look(%v): %d", pairs, e)
	}
	return s
}

func match(t *testing.T, pairs []api.Pair) []api.Pair {
	t.Helper()
	m, e := happy.Match(pairs)
	if e != api.OK {
		t.Fatalf("Match(%v): %d", pairs, e)
	}
	return m
}

func wantLook(t *testing.T, pairs []api.Pair, servers, numbers, size int) {
	t.Helper()
	want := api.Spread{Servers: servers, Numbers: numbers, Happy: size}
	if got := look(t, pairs); got != want {
		t.Errorf("Look(%v): %v instead of %v", pairs, got, want)
	}
}

func wantMatch(t *testing.T, pairs []api.Pair, want ...api.Pair) {
	t.Helper()
	if got := match(t, pairs); !slices.Equal(got, want) {
		t.Errorf("Match(%v): %v instead of %v", pairs, got, want)
	}
}

// byServer holds two pairs against each other as the document lists them.
func byServer(a, b api.Pair) int {
	return cmp.Or(cmp.Compare(a.Server, b.Server), cmp.Compare(a.Number, b.Number))
}

// tried gives the greatest matching that stands first, by trying all matchings of pairs that rise by server: of as many pairs the one that is met first need not stand first, so each is held against the best.
func tried(pairs []api.Pair) []api.Pair {
	pairs = slices.SortedFunc(slices.Values(pairs), byServer)
	var best, now []api.Pair
	var from func(i int)
	from = func(i int) {
		if len(now) > len(best) || len(now) == len(best) && slices.CompareFunc(now, best, byServer) < 0 {
			best = slices.Clone(now)
		}
		for j := i; j < len(pairs); j++ {
			p := pairs[j]
			if !slices.ContainsFunc(now, func(q api.Pair) bool { return q.Server == p.Server || q.Number == p.Number }) {
				now = append(now, p)
				from(j + 1)
				now = now[:len(now)-1]
			}
		}
	}
	from(0)
	return best
}

// all goes through the pairs of each way in which so many numbers can lie on so many servers.
func all(servers, numbers int, try func(pairs []api.Pair)) {
	for bits := range 1 << (servers * numbers) {
		var pairs []api.Pair
		for i := range servers * numbers {
			if bits>>i&1 == 1 {
				pairs = append(pairs, api.Pair{Server: i / numbers, Number: i % numbers})
			}
		}
		try(pairs)
	}
}

// drawn gives so many pairs, some of them maybe twice, in any order.
func drawn(r *rand.Rand, count, servers, numbers int) []api.Pair {
	pairs := make([]api.Pair, count)
	for i := range pairs {
		pairs[i] = api.Pair{Server: r.Intn(servers), Number: r.Intn(numbers)}
	}
	return pairs
}

// crowded gives pairs over all servers and numbers that may be, of which some servers have only a few numbers, and these of the same low ones, so that they must yield to each other.
func crowded(r *rand.Rand) []api.Pair {
	var pairs []api.Pair
	for server := range api.MaxServers {
		high := 1 + r.Intn(1+r.Intn(api.MaxN))
		for range 1 + r.Intn(1+r.Intn(40)) {
			pairs = append(pairs, api.Pair{Server: server, Number: r.Intn(high)})
		}
	}
	r.Shuffle(len(pairs), func(i, j int) { pairs[i], pairs[j] = pairs[j], pairs[i] })
	return pairs
}

// every gives all pairs that may be.
func every() []api.Pair {
	var pairs []api.Pair
	for server := range api.MaxServers {
		for number := range api.MaxN {
			pairs = append(pairs, api.Pair{Server: server, Number: number})
		}
	}
	return pairs
}

// greatest tells how many pairs a greatest matching has, found from the servers on, beside the servers below one and the numbers that are taken.
func greatest(pairs []api.Pair, from int, taken map[int]bool) int {
	numbers := map[int][]int{}
	for _, p := range pairs {
		if p.Server >= from && !taken[p.Number] {
			numbers[p.Server] = append(numbers[p.Server], p.Number)
		}
	}
	owner := map[int]int{}
	size := 0
	for server := from; server < api.MaxServers; server++ {
		met := map[int]bool{}
		var find func(server int) bool
		find = func(server int) bool {
			for _, number := range numbers[server] {
				if met[number] {
					continue
				}
				met[number] = true
				if other, is := owner[number]; !is || find(other) {
					owner[number] = server
					return true
				}
			}
			return false
		}
		if find(server) {
			size++
		}
	}
	return size
}

// picked gives the greatest matching that stands first pair by pair: each is the first one beside which the rest can still be as great as it must be.
func picked(pairs []api.Pair) []api.Pair {
	pairs = slices.SortedFunc(slices.Values(pairs), byServer)
	taken := map[int]bool{}
	size := greatest(pairs, 0, taken)
	var out []api.Pair
	next := 0
	for _, p := range pairs {
		if p.Server < next || taken[p.Number] {
			continue
		}
		taken[p.Number] = true
		if len(out)+1+greatest(pairs, p.Server+1, taken) == size {
			out = append(out, p)
			next = p.Server + 1
		} else {
			delete(taken, p.Number)
		}
	}
	return out
}

func TestExamples(t *testing.T) {
	l := of(0, 0, 0, 1, 1, 0)
	wantLook(t, l, 2, 2, 2)
	wantMatch(t, l, of(0, 1, 1, 0)...)
	l = of(0, 0, 1, 0, 2, 0)
	wantLook(t, l, 3, 1, 1)
	wantMatch(t, l, of(0, 0)...)
	wantLook(t, nil, 0, 0, 0)
	wantMatch(t, of(0, 0, 0, 1, 1, 1), of(0, 0, 1, 1)...)
	for _, l := range [][]api.Pair{of(32, 0), of(0, 255), of(-1, 0)} {
		if s, e := happy.Look(l); s != (api.Spread{}) || e != api.ErrPairs {
			t.Errorf("Look(%v): %v, %d", l, s, e)
		}
	}
	half := []float64{0.5, 0.5}
	wantOdds(t, half, 1, 0.75)
	wantOdds(t, half, 3, 0)
	wantOdds(t, half, 0, 1)
	wantOdds(t, half, -5, 1)
	wantNoOdds(t, []float64{2}, 1)
	wantLasts(t, of(0, 0, 0, 1, 1, 2), []float64{0.5, 0.25}, 2, 0.5)
	wantNoLasts(t, of(0, 0, 1, 0), []float64{0.5, 0.25}, 1, api.ErrPairs)
}

// badPairs gives pairs that may not be, some of which a narrower number would take for such as may.
func badPairs() []api.Pair {
	var bad []api.Pair
	for _, x := range []int{-1, -2, -32, -255, -256, -1 << 32, math.MinInt, math.MinInt32, 255, 256, 257, 1 << 16, 1 << 32, 1<<32 + 1, math.MaxInt32, math.MaxInt} {
		bad = append(bad, of(x, 0, 0, x, x, 254, 31, x, x, x)...)
	}
	return append(bad, of(32, 0, 33, 0, 32, 254, 63, 1, 64, 1, 254, 1)...)
}

func wantErrPairs(t *testing.T, what string, pairs []api.Pair) {
	t.Helper()
	if s, e := happy.Look(pairs); s != (api.Spread{}) || e != api.ErrPairs {
		t.Errorf("Look of %s: %v, %d", what, s, e)
	}
	if m, e := happy.Match(pairs); len(m) != 0 || e != api.ErrPairs {
		t.Errorf("Match of %s: %v, %d", what, m, e)
	}
	for _, servers := range [][]float64{nil, slices.Repeat([]float64{0.5}, 300), {7}, {math.NaN()}} {
		for _, k := range []int{-1, 0, 1, math.MaxInt} {
			if x, e := happy.Lasts(pairs, servers, k); x != 0 || e != api.ErrPairs {
				t.Errorf("Lasts of %s: %v, %d", what, x, e)
			}
		}
	}
}

func TestP23_1BadPair(t *testing.T) {
	for _, p := range badPairs() {
		wantErrPairs(t, "one bad pair", []api.Pair{p})
		good := of(0, 0, 1, 1, 31, 254)
		for at := range len(good) + 1 {
			wantErrPairs(t, "a bad pair among good ones", slices.Insert(slices.Clone(good), at, p))
		}
	}
}

func TestP23_1TooMany(t *testing.T) {
	alike := make([]api.Pair, api.MaxPairs+1)
	wantErrPairs(t, "one too many, all alike", alike)
	wantErrPairs(t, "far too many", make([]api.Pair, 3*api.MaxPairs))
	wantErrPairs(t, "all that may be, and some again", slices.Concat(every(), every()[:33]))

	wantLook(t, alike[1:], 1, 1, 1)
	wantMatch(t, alike[1:], of(0, 0)...)
	wantLasts(t, alike[1:], []float64{0.25}, 1, 0.25)
	most := slices.Concat(every(), every()[:32])
	if len(most) != api.MaxPairs {
		t.Fatalf("%d pairs", len(most))
	}
	wantLook(t, most, 32, 255, 32)
}

func TestP23_1Edges(t *testing.T) {
	for _, p := range of(0, 0, 31, 0, 0, 254, 31, 254, 7, 32, 31, 31) {
		wantLook(t, []api.Pair{p}, 1, 1, 1)
		wantMatch(t, []api.Pair{p}, p)
		wantLasts(t, []api.Pair{p}, slices.Repeat([]float64{0.5}, 32), 1, 0.5)
	}
}

func TestP23_2Look(t *testing.T) {
	wantLook(t, []api.Pair{}, 0, 0, 0)
	wantLook(t, of(3, 7, 3, 7, 3, 7), 1, 1, 1)
	wantLook(t, of(3, 7, 3, 8, 3, 9), 1, 3, 1)
	wantLook(t, of(0, 3, 3, 0), 2, 2, 2)
	wantLook(t, of(31, 31, 30, 31, 29, 31, 29, 30), 3, 2, 2)
	// Five servers share three numbers, and one server has all the others: fewer pairs than either.
	l := of(0, 0, 1, 1, 2, 2, 3, 0, 4, 1)
	for number := range 100 {
		l = append(l, api.Pair{Server: 20, Number: number})
	}
	wantLook(t, l, 6, 100, 4)
	wantLook(t, every(), 32, 255, 32)
}

func TestP23_2AllSmall(t *testing.T) {
	for _, most := range [][2]int{{1, 4}, {4, 1}, {2, 5}, {5, 2}, {3, 4}, {4, 3}} {
		all(most[0], most[1], func(pairs []api.Pair) {
			servers, numbers := map[int]bool{}, map[int]bool{}
			for _, p := range pairs {
				servers[p.Server], numbers[p.Number] = true, true
			}
			wantLook(t, pairs, len(servers), len(numbers), len(tried(pairs)))
		})
	}
}

func TestP23_3Match(t *testing.T) {
	wantMatch(t, nil)
	wantMatch(t, []api.Pair{})
	wantMatch(t, of(2, 7, 2, 7), of(2, 7)...)
	// The lesser number of server 0 decides ahead of the lesser server behind it.
	wantMatch(t, of(0, 0, 0, 1, 1, 0, 2, 1), of(0, 0, 2, 1)...)
	// A lesser number would cost a pair.
	wantMatch(t, of(0, 0, 0, 1, 0, 2, 1, 0, 2, 1), of(0, 2, 1, 0, 2, 1)...)
	// Server 0 has no part in a greatest matching but with the number that it shares.
	wantMatch(t, of(0, 5, 1, 5, 2, 5, 2, 4), of(0, 5, 2, 4)...)
	// A way over all servers: each has the number of the next one and its own.
	var chain, up, down []api.Pair
	for server := range api.MaxServers {
		chain = append(chain, of(server, server, server, server+1)...)
		up = append(up, of(server, server)...)
		down = append(down, of(server, server+1)...)
	}
	wantMatch(t, chain, up...)
	// The last server can have no other number than 0, and so each yields to the one ahead.
	wantMatch(t, append(chain[:len(chain)-2:len(chain)-2], of(31, 0)...), append(down[:31:31], of(31, 0)...)...)
	wantMatch(t, every(), up...)
}

func TestP23_3AllSmall(t *testing.T) {
	for _, most := range [][2]int{{1, 4}, {4, 1}, {2, 6}, {6, 2}, {3, 4}, {4, 3}, {3, 5}, {5, 3}, {4, 4}} {
		all(most[0], most[1], func(pairs []api.Pair) { wantMatch(t, pairs, tried(pairs)...) })
	}
}

func TestP23_3Drawn(t *testing.T) {
	r := rand.New(rand.NewSource(23))
	for range 400 {
		pairs := drawn(r, r.Intn(12), 2+r.Intn(6), 2+r.Intn(6))
		wantMatch(t, pairs, tried(pairs)...)
	}
	for range 100 {
		pairs := crowded(r)
		wantMatch(t, pairs, picked(pairs)...)
		pairs = drawn(r, 1+r.Intn(200), api.MaxServers, 1+r.Intn(api.MaxN))
		wantMatch(t, pairs, picked(pairs)...)
	}
}

// Neither the order of pairs nor how often one stands there has a part in an answer.
func TestP23_3AnyOrder(t *testing.T) {
	r := rand.New(rand.NewSource(3))
	for range 50 {
		pairs := crowded(r)
		s, m := look(t, pairs), match(t, pairs)
		more := slices.Concat(pairs, pairs[:len(pairs)/2], m)
		r.Shuffle(len(more), func(i, j int) { more[i], more[j] = more[j], more[i] })
		wantLook(t, more, s.Servers, s.Numbers, s.Happy)
		wantMatch(t, more, m...)
	}
}

func TestP23_6OnePairMore(t *testing.T) {
	r := rand.New(rand.NewSource(6))
	for range 60 {
		pairs := drawn(r, 60, 1+r.Intn(32), 1+r.Intn(40))
		var was api.Spread
		for i := range len(pairs) + 1 {
			s := look(t, pairs[:i])
			if s.Happy > s.Servers || s.Happy > s.Numbers {
				t.Errorf("Look(%v): %v", pairs[:i], s)
			}
			if s.Servers < was.Servers || s.Numbers < was.Numbers || s.Happy < was.Happy || s.Happy > was.Happy+1 {
				t.Errorf("Look(%v): %v behind %v", pairs[:i], s, was)
			}
			was = s
		}
	}
}

// wantMatching wants a matching of Happy pairs, rising by server, each of them one of pairs.
func wantMatching(t *testing.T, pairs []api.Pair) {
	t.Helper()
	m := match(t, pairs)
	if size := look(t, pairs).Happy; len(m) != size {
		t.Errorf("Match(%v): %v, and Happy is %d", pairs, m, size)
	}
	numbers := map[int]bool{}
	for i, p := range m {
		if !slices.Contains(pairs, p) || i > 0 && m[i-1].Server >= p.Server || numbers[p.Number] {
			t.Errorf("Match(%v): %v", pairs, m)
		}
		numbers[p.Number] = true
	}
}

func TestP23_6MatchIsOne(t *testing.T) {
	r := rand.New(rand.NewSource(66))
	for range 100 {
		wantMatching(t, crowded(r))
		wantMatching(t, drawn(r, r.Intn(300), 1+r.Intn(32), 1+r.Intn(255)))
	}
	wantMatching(t, every())
}

// cover gives servers and numbers, as many as a greatest matching has pairs, of which every pair has one: the numbers that lead, by turns over a pair and over a pair of the matching, to a server without a number, and the servers of the other numbers.
func cover(pairs, matched []api.Pair) (servers, numbers map[int]bool) {
	servers, numbers = map[int]bool{}, map[int]bool{}
	free := map[int]bool{}
	for _, p := range pairs {
		if !slices.ContainsFunc(matched, func(m api.Pair) bool { return m.Server == p.Server }) {
			free[p.Server] = true
		}
	}
	for grew := true; grew; {
		grew = false
		for _, p := range pairs {
			if free[p.Server] && !numbers[p.Number] {
				numbers[p.Number], grew = true, true
			}
		}
		for _, m := range matched {
			if numbers[m.Number] && !free[m.Server] {
				free[m.Server], grew = true, true
			}
		}
	}
	for _, m := range matched {
		if !free[m.Server] {
			servers[m.Server] = true
		}
	}
	return servers, numbers
}

func TestP23_7Cover(t *testing.T) {
	r := rand.New(rand.NewSource(7))
	for range 200 {
		pairs := crowded(r)
		if r.Intn(2) == 0 {
			pairs = drawn(r, r.Intn(100), 1+r.Intn(32), 1+r.Intn(50))
		}
		servers, numbers := cover(pairs, match(t, pairs))
		if size := look(t, pairs).Happy; len(servers)+len(numbers) != size {
			t.Errorf("Look(%v): Happy is %d, and %v, %v are %d", pairs, size, servers, numbers, len(servers)+len(numbers))
		}
		for _, p := range pairs {
			if !servers[p.Server] && !numbers[p.Number] {
				t.Errorf("%v has none of %v, %v", p, servers, numbers)
			}
		}
	}
}

// least tells how few servers and numbers together can be such that every pair has one of them.
func least(pairs []api.Pair) int {
	if len(pairs) == 0 {
		return 0
	}
	server, number := pairs[0].Server, pairs[0].Number
	without := func(has func(api.Pair) bool) int { return 1 + least(slices.DeleteFunc(slices.Clone(pairs), has)) }
	return min(without(func(p api.Pair) bool { return p.Server == server }), without(func(p api.Pair) bool { return p.Number == number }))
}

func TestP23_7AllSmall(t *testing.T) {
	all(3, 4, func(pairs []api.Pair) {
		if got := look(t, pairs).Happy; got != least(pairs) {
			t.Errorf("Look(%v): Happy is %d instead of %d", pairs, got, least(pairs))
		}
	})
}

func TestR3PairsStay(t *testing.T) {
	room := slices.Concat(of(3, 1, 0, 0, 0, 1, 1, 0, 0, 0), of(-7, -7, -8, -8))
	was := slices.Clone(room)
	pairs := room[:5]
	match(t, pairs)
	look(t, pairs)
	happy.Match(room)
	happy.Look(room)
	happy.Lasts(pairs, []float64{1, 1, 1, 1}, 1)
	happy.Lasts(of(0, 1, 0, 2)[:1], []float64{1}, 1)
	if !slices.Equal(room, was) {
		t.Errorf("pairs are %v instead of %v", room, was)
	}
}

func TestR3OwnMemory(t *testing.T) {
	pairs := of(0, 0, 0, 1, 1, 0)
	m, other := match(t, pairs), match(t, pairs)
	for i := range m[:cap(m)] {
		m[:cap(m)][i] = api.Pair{Server: -1, Number: -1}
	}
	if want := of(0, 1, 1, 0); !slices.Equal(other, want) || !slices.Equal(pairs, of(0, 0, 0, 1, 1, 0)) {
		t.Errorf("an answer shares memory: %v, %v", other, pairs)
	}
	wantMatch(t, pairs, other...)
}

// An answer hangs on the arguments alone: the same from any goroutine, at once, however often.
func TestR4Alike(t *testing.T) {
	r := rand.New(rand.NewSource(4))
	pairs := crowded(r)
	s, m := look(t, pairs), match(t, pairs)
	var w sync.WaitGroup
	for range 8 {
		w.Go(func() {
			for range 5 {
				ms, e := happy.Match(pairs)
				ss, f := happy.Look(pairs)
				if !slices.Equal(ms, m) || ss != s || e != api.OK || f != api.OK {
					t.Errorf("beside others: %v, %v", ms, ss)
				}
			}
		})
	}
	w.Wait()
}
