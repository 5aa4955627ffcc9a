package ring_test

import (
	"crypto/sha256"
	"encoding/binary"
	"iter"
	"math"
	"math/rand"
	"slices"
	"sync"
	"testing"

	"strongroom/api"
	"strongroom/ring"
)

// step is a rank with its server.
type step struct{ rank, server int }

// badServers gives numbers of servers that no net has, and such as a narrower number would take for one that it may have.
func badServers() []int {
	return []int{0, -1, -2, -3, -32, math.MinInt, math.MinInt + 3, math.MinInt32, 33, 34, 64, 255, 256 + 3, 1<<16 + 3, 1<<32 + 3, math.MaxInt32, math.MaxInt}
}

// indices gives indices at the edges, and others drawn by a fixed seed.
func indices() []api.Index {
	all := []api.Index{{}, {1, 2, 3}, {15: 1}, {0: 255, 15: 255}}
	r := rand.New(rand.NewSource(22))
	for range 40 {
		var x api.Index
		r.Read(x[:])
		all = append(all, x)
	}
	return all
}

// digest gives a server's digest for an index, by the library.
func digest(x api.Index, server int) [32]byte {
	b := binary.BigEndian.AppendUint64(nil, uint64(len("strongroom ring")))
	b = append(b, "strongroom ring"...)
	b = append(binary.BigEndian.AppendUint64(b, 16), x[:]...)
	b = binary.BigEndian.AppendUint32(binary.BigEndian.AppendUint64(b, 4), uint32(server))
	return sha256.Sum256(b)
}

// reckoned gives the order of servers for an index: each stands behind as many as have a digest below its own.
func reckoned(x api.Index, servers int) []int {
	order := make([]int, servers)
	for server := range servers {
		own := digest(x, server)
		ahead := 0
		for other := range servers {
			if d := digest(x, other); string(d[:]) < string(own[:]) {
				ahead++
			}
		}
		order[ahead] = server
	}
	return order
}

func order(t *testing.T, x api.Index, servers int) []int {
	t.Helper()
	l, e := ring.Order(x, servers)
	if e != api.OK {
		t.Fatalf("Order(%x, %d): %d", x, servers, e)
	}
	return l
}

func wantOrder(t *testing.T, x api.Index, servers int, want ...int) {
	t.Helper()
	if l, e := ring.Order(x, servers); !slices.Equal(l, want) || e != api.OK {
		t.Errorf("Order(%x, %d): %v, %d instead of %v", x, servers, l, e, want)
	}
}

func wantRank(t *testing.T, x api.Index, servers, server, want int, wantErr api.Errno) {
	t.Helper()
	if rank, e := ring.Rank(x, servers, server); rank != want || e != wantErr {
		t.Errorf("Rank(%x, %d, %d): %d, %d instead of %d, %d", x, servers, server, rank, e, want, wantErr)
	}
}

// gone gives what an iterator goes through, of which there are 32 at most.
func gone(all iter.Seq2[int, int]) []step {
	var steps []step
	for rank, server := range all {
		steps = append(steps, step{rank, server})
		if len(steps) > api.MaxServers {
			break
		}
	}
	return steps
}

// round gives what Round must go through, from a rank on, where an order is given.
func round(order []int, first int) []step {
	var steps []step
	for rank := first; rank < len(order); rank++ {
		steps = append(steps, step{rank, order[rank]})
	}
	for rank := 0; rank < first; rank++ {
		steps = append(steps, step{rank, order[rank]})
	}
	return steps
}

func wantRound(t *testing.T, x api.Index, servers, from int, want ...step) {
	t.Helper()
	all := ring.Round(x, servers, from)
	if all == nil {
		t.Fatalf("Round(%x, %d, %d): nil", x, servers, from)
	}
	if got := gone(all); !slices.Equal(got, want) {
		t.Errorf("Round(%x, %d, %d): %v instead of %v", x, servers, from, got, want)
	}
}

// ordered gives an index of which three servers have the order 2, 0, 1.
func ordered(t *testing.T) api.Index {
	t.Helper()
	for i := range 256 {
		if x := (api.Index{byte(i)}); slices.Equal(reckoned(x, 3), []int{2, 0, 1}) {
			return x
		}
	}
	t.Fatal("no index of that order")
	return api.Index{}
}

func TestExamples(t *testing.T) {
	wantOrder(t, api.Index{}, 1, 0)
	wantOrder(t, api.Index{1, 2, 3}, 1, 0)
	for _, servers := range []int{0, 33} {
		if l, e := ring.Order(api.Index{}, servers); len(l) != 0 || e != api.ErrArg {
			t.Errorf("Order of %d: %v, %d", servers, l, e)
		}
	}
	wantRank(t, api.Index{}, 3, 3, 0, api.ErrArg)
	x := ordered(t)
	wantOrder(t, x, 3, 2, 0, 1)
	wantRound(t, x, 3, 4, step{1, 0}, step{2, 1}, step{0, 2})
	wantRound(t, x, 3, -1, step{2, 1}, step{0, 2}, step{1, 0})
}

func TestP22_1Order(t *testing.T) {
	for _, x := range indices() {
		for servers := 1; servers <= api.MaxServers; servers++ {
			wantOrder(t, x, servers, reckoned(x, servers)...)
		}
	}
}

func TestP22_1Refused(t *testing.T) {
	for _, x := range []api.Index{{}, {1, 2, 3}} {
		for _, servers := range badServers() {
			if l, e := ring.Order(x, servers); len(l) != 0 || e != api.ErrArg {
				t.Errorf("Order(%x, %d): %v, %d", x, servers, l, e)
			}
		}
	}
}

// Each byte of the index has a part in the order.
func TestP22_1EachIndexItsOwn(t *testing.T) {
	was := order(t, api.Index{}, api.MaxServers)
	for at := range len(api.Index{}) {
		var x api.Index
		x[at] = 1
		if slices.Equal(order(t, x, api.MaxServers), was) {
			t.Errorf("Order(%x, 32) is that of noughts", x)
		}
	}
}

func TestP22_1OwnMemory(t *testing.T) {
	x := api.Index{1, 2, 3}
	all := ring.Round(x, 20, 3)
	l, other := order(t, x, 20), order(t, x, 20)
	want := reckoned(x, 20)
	for i := range l[:cap(l)] {
		l[:cap(l)][i] = -1
	}
	if !slices.Equal(other, want) {
		t.Errorf("two answers share memory: %v", other)
	}
	wantOrder(t, x, 20, want...)
	if got := gone(all); !slices.Equal(got, round(want, 3)) {
		t.Errorf("Round goes through what Order answered: %v", got)
	}
}

func TestP22_2Rank(t *testing.T) {
	for _, x := range indices() {
		for _, servers := range []int{1, 2, 3, 7, 8, 31, 32} {
			for rank, server := range reckoned(x, servers) {
				wantRank(t, x, servers, server, rank, api.OK)
			}
		}
	}
}

func TestP22_2Refused(t *testing.T) {
	for _, x := range []api.Index{{}, {1, 2, 3}} {
		for _, servers := range badServers() {
			for _, server := range []int{0, 1, 32, 33, -1, -5, servers, servers - 1, servers + 1, math.MinInt, math.MaxInt} {
				wantRank(t, x, servers, server, 0, api.ErrArg)
			}
		}
		for _, servers := range []int{1, 2, 3, 31, 32} {
			for _, server := range []int{-1, -2, -servers, math.MinInt, servers, servers + 1, 33, 256, 1 << 32, math.MaxInt} {
				wantRank(t, x, servers, server, 0, api.ErrArg)
			}
		}
	}
}

func TestP22_3Round(t *testing.T) {
	for _, x := range indices()[:12] {
		for _, servers := range []int{1, 2, 3, 5, 8, 31, 32} {
			want := reckoned(x, servers)
			for from := -3 * servers; from <= 3*servers; from++ {
				// Counted up by whole rounds, so that no remainder below 0 is asked for.
				wantRound(t, x, servers, from, round(want, (from+3*servers)%servers)...)
			}
		}
	}
}

func TestP22_3FarFrom(t *testing.T) {
	x := api.Index{1, 2, 3}
	// 2^63 is 1 modulo 7, 2 modulo 3 and 8 modulo 12.
	for _, c := range []struct{ servers, from, first int }{
		{7, math.MinInt, 6},
		{7, math.MaxInt, 0},
		{3, math.MinInt, 1},
		{3, math.MaxInt, 1},
		{12, math.MinInt, 4},
		{12, math.MaxInt, 7},
		{32, math.MinInt, 0},
		{32, math.MinInt + 1, 1},
		{32, math.MaxInt, 31},
		{32, math.MaxInt - 31, 0},
		{1, math.MinInt, 0},
		{1, math.MaxInt, 0},
		{31, 1 << 40, 1},
		{31, -(1 << 40), 30},
	} {
		wantRound(t, x, c.servers, c.from, round(reckoned(x, c.servers), c.first)...)
	}
}

func TestP22_3Nothing(t *testing.T) {
	for _, servers := range badServers() {
		for _, from := range []int{0, 1, -1, 5, servers, math.MinInt, math.MaxInt} {
			wantRound(t, api.Index{}, servers, from)
			wantRound(t, api.Index{1, 2, 3}, servers, from)
		}
	}
}

func TestP22_3LeftEarly(t *testing.T) {
	x := api.Index{4, 5}
	want := round(reckoned(x, 6), 4)
	all := ring.Round(x, 6, 4)
	for n := 1; n <= 6; n++ {
		var met []step
		// Called by hand: a range would not tell whether it was called on behind its no.
		all(func(rank, server int) bool {
			met = append(met, step{rank, server})
			return len(met) < n
		})
		if !slices.Equal(met, want[:n]) {
			t.Errorf("left behind %d: %v instead of %v", n, met, want[:n])
		}
	}
	for range 3 {
		if got := gone(all); !slices.Equal(got, want) {
			t.Errorf("gone through again: %v instead of %v", got, want)
		}
	}
}

func TestP22_3OneWithinTheOther(t *testing.T) {
	x := api.Index{4, 5}
	want := round(reckoned(x, 5), 2)
	all := ring.Round(x, 5, 2)
	var outer []step
	for rank, server := range all {
		if inner := gone(all); !slices.Equal(inner, want) {
			t.Errorf("within: %v instead of %v", inner, want)
		}
		for r := range all {
			if r == 0 {
				break
			}
		}
		wantRound(t, x, 7, 1, round(reckoned(x, 7), 1)...)
		outer = append(outer, step{rank, server})
	}
	if !slices.Equal(outer, want) {
		t.Errorf("around: %v instead of %v", outer, want)
	}
}

func TestP22_4Agree(t *testing.T) {
	for _, x := range indices()[:12] {
		for servers := 1; servers <= api.MaxServers; servers++ {
			l := order(t, x, servers)
			sorted := slices.Sorted(slices.Values(l))
			for i := range servers {
				if len(sorted) != servers || sorted[i] != i {
					t.Fatalf("Order(%x, %d) has not every server once: %v", x, servers, l)
				}
			}
			for rank, server := range l {
				wantRank(t, x, servers, server, rank, api.OK)
				wantRound(t, x, servers, rank, round(l, rank)...)
			}
		}
	}
}

func TestP22_5OneServerMore(t *testing.T) {
	for _, x := range indices() {
		for servers := 1; servers < api.MaxServers; servers++ {
			l, more := order(t, x, servers), order(t, x, servers+1)
			without := slices.DeleteFunc(slices.Clone(more), func(server int) bool { return server == servers })
			if !slices.Equal(without, l) || len(more) != servers+1 {
				t.Errorf("Order(%x, ..) of %d servers: %v; of one more: %v", x, servers, l, more)
			}
		}
	}
}

// An answer hangs on the arguments alone: the same from any goroutine, at once, in any order of calls.
func TestR4Alike(t *testing.T) {
	all := ring.Round(api.Index{7}, 32, -5)
	want := round(reckoned(api.Index{7}, 32), 27)
	var w sync.WaitGroup
	for i := range 8 {
		w.Go(func() {
			x := api.Index{byte(i)}
			l, _ := ring.Order(x, 8+i)
			if got := gone(all); !slices.Equal(got, want) || !slices.Equal(l, reckoned(x, 8+i)) {
				t.Errorf("beside others: %v, %v", got, l)
			}
		})
	}
	w.Wait()
}
