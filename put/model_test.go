package put_test

import (
	"bytes"
	"math/rand/v2"
	"runtime"
	"slices"
	"testing"
	"time"

	"strongroom/api"
	"strongroom/post"
	"strongroom/put"
	"strongroom/recipe"
)

// draw draws things by a fixed seed.
type draw struct{ *rand.Rand }

func drawn(seed uint64) draw { return draw{rand.New(rand.NewPCG(seed, 24))} }

func (d draw) params() api.Params {
	n := 1 + d.IntN(8)
	return params(1+d.IntN(n), n, 20+d.IntN(60), 1+d.IntN(min(3, n)))
}

// inTime draws rows of fates that are all honest and in time.
func (d draw) inTime(servers int) [][]api.Fate {
	fates := make([][]api.Fate, servers)
	for i := range fates {
		for range d.IntN(20) {
			fates[i] = append(fates[i], honest(d.IntN(12)-1))
		}
	}
	return fates
}

// fate draws a fate: often an honest one.
func (d draw) fate() api.Fate {
	odds := []api.Fate{drop(), lose(), honest(11), {}, lie(), lie(repStored), lie(repStored), lie(repFull), lie(repOther), lie(repRefused), lie(1, 1, 3), lie(repStored, 1), lie(6)}
	if d.IntN(2) == 0 {
		return honest(1 + d.IntN(10))
	}
	f := odds[d.IntN(len(odds))]
	if f.Delay == 1 {
		f.Delay = 1 + d.IntN(11)
	}
	return f
}

func (d draw) fates(servers int) [][]api.Fate {
	fates := make([][]api.Fate, d.IntN(servers+1))
	for i := range fates {
		for range d.IntN(12) {
			fates[i] = append(fates[i], d.fate())
		}
	}
	return fates
}

// stores draws servers with room for none, some or all of so many shares, some of which may be there, or others under their numbers.
func (d draw) stores(i api.Index, shares [][]byte) []api.Store {
	all := 0
	for _, s := range shares {
		all += len(s)
	}
	stores := make([]api.Store, d.IntN(7))
	for s := range stores {
		for number, share := range shares {
			k := api.Kept{Index: i, Number: number, Bytes: share, Leases: []api.Lease{{Who: uint32(d.IntN(3)), Until: 60 + d.IntN(60)}}}
			if d.IntN(2) == 0 {
				k.Bytes = []byte{byte(d.IntN(4)), 9}
			}
			if d.IntN(5) == 0 {
				stores[s].Kept = append(stores[s].Kept, k)
				stores[s].Room += len(k.Bytes)
			}
		}
		stores[s].Room += d.IntN(all + all/2 + 1)
	}
	return stores
}

// tries draws tries, each number at most once.
func (d draw) tries(numbers, servers int) []api.Try {
	var tries []api.Try
	for _, number := range d.Perm(numbers)[:d.IntN(numbers+1)] {
		tries = append(tries, try(number, d.Perm(servers)[:d.IntN(servers+1)]...))
	}
	return tries
}

// reckoned goes along the calls of a transcript, by the chapter's words, and holds each against what must have been asked; the pairs and the numbers that come of them, and the calls behind them.
func reckoned(t *testing.T, trace []api.Exchange, i api.Index, shares [][]byte, tries []api.Try, l api.Lease) ([]api.Pair, []int, []api.Exchange) {
	t.Helper()
	lies := map[int]int{}
	for r := 0; ; r++ {
		calls := 0
		for _, try := range tries {
			if _, is := lies[try.Number]; is || len(try.Servers) <= r {
				continue
			}
			if calls >= len(trace) {
				t.Fatalf("round %d: the call of number %d lacks", r, try.Number)
			}
			c := trace[calls]
			if c.Server != try.Servers[r] || c.Sent != trace[0].Sent || !bytes.Equal(c.Request, storeBytes(i, try.Number, l, shares[try.Number])) {
				t.Fatalf("round %d, number %d: %v", r, try.Number, c)
			}
			if c.Came && bytes.Equal(c.Reply, []byte{repStored}) {
				lies[try.Number] = c.Server
			}
			calls++
		}
		if calls == 0 {
			break
		}
		trace = trace[calls:]
	}
	var placed []api.Pair
	var lacking []int
	for _, try := range tries {
		if s, is := lies[try.Number]; is {
			placed = append(placed, on(s, try.Number))
		} else {
			lacking = append(lacking, try.Number)
		}
	}
	return placed, lacking, trace
}

// TestP24_2Model: shares of all sizes, any tries, any servers and fates.
func TestP24_2Model(t *testing.T) {
	for seed := range uint64(600) {
		d := drawn(seed)
		shares := make([][]byte, 1+d.IntN(10))
		for i := range shares {
			shares[i] = filled(d.IntN(12))
		}
		stores := d.stores(x, shares)
		n := begun(t, stores, d.fates(len(stores))...)
		n.Wait(d.IntN(70))
		l := lease(uint32(d.IntN(3)), d.IntN(200))
		before := n.Made()
		tries := d.tries(len(shares), len(stores))
		placed, lacking, e := put.Place(n, x, shares, tries, l)
		p, s, rest := reckoned(t, n.Transcript()[before:], x, shares, tries, l)
		if e != api.OK || len(rest) != 0 || !slices.Equal(placed, p) || !slices.Equal(lacking, s) {
			t.Fatalf("seed %d: %v, %v, %d, %d calls too many, want %v, %v", seed, placed, lacking, e, len(rest), p, s)
		}
	}
}

// planned gives the tries of a put, server by server.
func planned(t *testing.T, i api.Index, numbers, servers int) []api.Try {
	t.Helper()
	var tries []api.Try
	for number := range numbers {
		one := try(number)
		for j := range servers {
			one.Servers = append(one.Servers, order(t, i, servers)[(number+j)%servers])
		}
		tries = append(tries, one)
	}
	return tries
}

// heldTo holds a put against its part of the transcript: the stores are the recipe's, and the answer and the release follow from the replies.
func heldTo(t *testing.T, n *post.Net, from int, m api.Made, p api.Params, l api.Lease, s api.Stored, e api.Errno) {
	t.Helper()
	placed, _, rest := reckoned(t, n.Transcript()[from:], m.Verify.Index, m.Shares, planned(t, m.Verify.Index, p.N, n.Servers()), l)
	servers, numbers := map[int]int{}, map[int]int{}
	for _, pair := range placed {
		servers[pair.Server]++
		numbers[pair.Number]++
	}
	if len(numbers) != len(placed) {
		t.Fatalf("a number lies twice: %v", placed)
	}
	if len(servers) >= p.Happy && len(placed) >= p.K {
		if e != api.OK || len(rest) != 0 || !sameStored(s, api.Stored{Cap: api.Cap{Kind: api.CapRead, Read: m.Read}, Placed: placed}) {
			t.Fatalf("%+v, %d, %d calls behind the stores, want %v", s, e, len(rest), placed)
		}
		return
	}
	if e != api.ErrUnhappy || len(rest) != n.Servers() || !sameStored(s, api.Stored{}) {
		t.Fatalf("%+v, %d, %d calls behind the stores, but unhappy with %v", s, e, len(rest), placed)
	}
	for i, c := range rest {
		if c.Server != i || c.Sent != rest[0].Sent || !bytes.Equal(c.Request, releaseBytes(m.Verify.Index, l.Who)) {
			t.Fatalf("release %d: %v", i, c)
		}
	}
}

// TestP24_4Model: files and parameters, put on nets with any servers and fates, one after the other.
func TestP24_4Model(t *testing.T) {
	happy, unhappy := 0, 0
	for seed := range uint64(500) {
		d := drawn(seed)
		file, p := filled(33+d.IntN(100)), d.params()
		m := made(t, file, p)
		stores := d.stores(m.Verify.Index, m.Shares)
		n := begun(t, stores, d.fates(len(stores))...)
		for range 3 {
			p.Happy = 1 + d.IntN(p.N)
			l := lease(uint32(d.IntN(3)), n.Tick()+d.IntN(80))
			from := n.Made()
			s, e := put.Put(n, file, p, l)
			heldTo(t, n, from, m, p, l, s, e)
			if n.Made()-from > p.N*n.Servers()+n.Servers() {
				t.Fatalf("seed %d: %d calls", seed, n.Made()-from)
			}
			if e == api.OK {
				happy++
			} else {
				unhappy++
			}
		}
	}
	if happy < 200 || unhappy < 200 {
		t.Errorf("%d happy, %d unhappy: too few of one kind to tell much", happy, unhappy)
	}
}

// TestP24_7Released: behind ErrUnhappy no server that did the release has a lease of that Who.
func TestP24_7Released(t *testing.T) {
	unhappy := 0
	for seed := range uint64(300) {
		d := drawn(1000 + seed)
		file, p := filled(33+d.IntN(100)), d.params()
		p.Happy = p.N
		m := made(t, file, p)
		stores := d.stores(m.Verify.Index, m.Shares)
		n := begun(t, stores, d.inTime(len(stores))...)
		if _, e := put.Put(n, file, p, lease(1, 50+d.IntN(100))); e != api.ErrUnhappy {
			continue
		}
		unhappy++
		wantNoneLeft(t, n, m.Verify.Index, 1)
		if t.Failed() {
			t.Fatalf("seed %d", seed)
		}
	}
	if unhappy < 100 {
		t.Errorf("%d unhappy: too few to tell much", unhappy)
	}
}

// TestP24_7Most: as many calls as there may be, and no more.
func TestP24_7Most(t *testing.T) {
	for _, servers := range []int{0, 1, 3, 32} {
		for _, p := range many() {
			file := filled(200 + p.N)
			n := begun(t, make([]api.Store, servers))
			if _, e := put.Put(n, file, p, lease(1, 99)); e != api.ErrUnhappy || n.Made() != p.N*servers+servers {
				t.Errorf("%+v, %d servers: %d, %d calls", p, servers, e, n.Made())
			}
		}
	}
}

// TestP24_5Stores: all that goes out as a store, whatever becomes of it, is the recipe's share of its number, under the index and the lease.
func TestP24_5Stores(t *testing.T) {
	for seed := range uint64(60) {
		d := drawn(2000 + seed)
		file, p := filled(33+d.IntN(400)), d.params()
		p.Secret = filled(d.IntN(40))
		servers := 1 + d.IntN(5)
		n := begun(t, slices.Repeat(rooms(d.IntN(5000)), servers), d.fates(servers)...)
		l := lease(uint32(seed)<<20, 300)
		put.Put(n, file, p, l)
		for _, c := range n.Transcript()[:p.N] {
			q := isStore(t, c.Request)
			want, e := recipe.Share(file, p, q.Number)
			if e != api.OK || !bytes.Equal(q.Bytes, want) || q.Lease != l || q.Index != made(t, file, p).Verify.Index {
				t.Fatalf("seed %d: number %d", seed, q.Number)
			}
		}
	}
}

// TestR4Runs: however goroutines run, a put asks and answers the same, and leaves none behind.
func TestR4Runs(t *testing.T) {
	defer runtime.GOMAXPROCS(runtime.GOMAXPROCS(0))
	before := runtime.NumGoroutine()
	var first []api.Exchange
	for run := range 30 {
		runtime.GOMAXPROCS(1 + run%8)
		d := drawn(77)
		n := begun(t, slices.Repeat(rooms(4000), 20), d.fates(20)...)
		for happy := range 8 {
			put.Put(n, filled(100+happy), params(3, 30, 20, 1+4*happy), lease(1, 900))
		}
		trace := n.Transcript()
		if run == 0 {
			first = trace
		}
		if !slices.EqualFunc(trace, first, func(a, b api.Exchange) bool {
			return a.Server == b.Server && a.Sent == b.Sent && a.Came == b.Came && a.Tick == b.Tick && bytes.Equal(a.Request, b.Request) && bytes.Equal(a.Reply, b.Reply)
		}) {
			t.Fatalf("run %d differs from the first", run)
		}
	}
	for range 1000 {
		if runtime.NumGoroutine() <= before {
			return
		}
		time.Sleep(time.Millisecond) // one that has done its last thing may need a moment to be gone
	}
	t.Errorf("%d goroutines, %d before", runtime.NumGoroutine(), before)
}
