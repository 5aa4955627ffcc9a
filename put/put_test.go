package put_test

import (
	"bytes"
	"fmt"
	"math"
	"slices"
	"testing"

	"strongroom/api"
	"strongroom/put"
	"strongroom/recipe"
)

// example gives the file and the parameters of the chapter's examples.
func example(happy int) ([]byte, api.Params) { return filled(40), params(2, 4, 16, happy) }

// TestP24_4Example2: all honest, with room.
func TestP24_4Example2(t *testing.T) {
	file, p := example(3)
	o := order(t, made(t, file, p).Verify.Index, 3)
	n := begun(t, roomyServers(3))
	wantPut(t, n, file, p, lease(7, 500), on(o[0], 0), on(o[1], 1), on(o[2], 2), on(o[0], 3))
	wantUntouched(t, n, 1, 4)
}

// TestP24_4Example3: the same, one server having no room.
func TestP24_4Example3(t *testing.T) {
	file, p := example(3)
	m, l := made(t, file, p), lease(7, 500)
	i := m.Verify.Index
	o := order(t, i, 3)
	stores := roomyServers(3)
	stores[o[1]].Room = 0
	n := begun(t, stores)
	wantNoPut(t, n, file, p, l, api.ErrUnhappy)
	store := func(tick, server, number int) sent {
		return sent{tick, server, storeBytes(i, number, l, m.Shares[number])}
	}
	release := func(server int) sent { return sent{2, server, releaseBytes(i, 7)} }
	wantSent(t, n, 0, store(0, o[0], 0), store(0, o[1], 1), store(0, o[2], 2), store(0, o[0], 3), store(1, o[2], 1), release(0), release(1), release(2))
	_, p = example(2)
	n = begun(t, stores)
	wantPut(t, n, file, p, l, on(o[0], 0), on(o[2], 1), on(o[2], 2), on(o[0], 3))
	wantUntouched(t, n, 2, 5)
}

// TestP24_4Example4: no servers; a literal file.
func TestP24_4Example4(t *testing.T) {
	file, p := example(1)
	n := begun(t, nil)
	wantNoPut(t, n, file, p, lease(7, 500), api.ErrUnhappy)
	wantUntouched(t, n, 0, 0)
	_, p = example(3)
	n = begun(t, rooms(0))
	if s, e := put.Put(n, filled(32), p, lease(7, 500)); e != api.OK || !sameStored(s, api.Stored{Cap: api.Cap{Kind: api.CapLit, Lit: filled(32)}}) {
		t.Errorf("%+v, %d", s, e)
	}
	wantUntouched(t, n, 0, 0)
}

// TestP24_4Literal: a short file is in its capability, whatever the net is like, and nobody is asked.
func TestP24_4Literal(t *testing.T) {
	for size := range api.MaxLit + 1 {
		for servers := range 3 {
			n := begun(t, rooms(0, 0)[:servers])
			n.Wait(60)
			for _, p := range []api.Params{params(1, 1, 1, 1), params(2, 4, 16, 4), params(255, 255, api.MaxSeg, 255), {K: 1, N: 2, Seg: 7, Happy: 2, Secret: filled(64)}} {
				s, e := put.Put(n, filled(size), p, lease(1, 50)) // a lease that has run out long ago keeps nothing here
				if e != api.OK || !sameStored(s, api.Stored{Cap: api.Cap{Kind: api.CapLit, Lit: filled(size)}}) {
					t.Errorf("%d bytes, %+v: %+v, %d", size, p, s, e)
				}
			}
			wantUntouched(t, n, 60, 0)
		}
	}
	n := begun(t, rooms(1000))
	s, e := put.Put(n, filled(33), params(1, 1, 33, 1), lease(1, 50))
	if e != api.OK || s.Cap.Kind != api.CapRead || len(s.Placed) != 1 {
		t.Errorf("33 bytes: %+v, %d", s, e)
	}
}

func TestP24_4NoNet(t *testing.T) {
	file, p := example(1)
	for _, n := range noNets(t) {
		for _, b := range [][]byte{nil, filled(10), file, make([]byte, api.MaxFile+1)} {
			wantNoPut(t, n, b, p, lease(1, 50), api.ErrNil)
			wantNoPut(t, n, b, api.Params{}, lease(1, -1), api.ErrNil) // ahead of all else
		}
	}
}

// badParams are parameters with which nothing is put.
func badParams() []api.Params {
	bad := []api.Params{
		{}, params(0, 4, 16, 1), params(5, 4, 16, 1), params(1, 256, 16, 1), params(1, 0, 16, 0), params(2, 4, 0, 1), params(2, 4, api.MaxSeg+1, 1),
		params(2, 4, 16, 0), params(2, 4, 16, 5), params(2, 4, 16, 255), params(255, 255, 16, 256), params(1, 1, 16, 2), {K: 1, N: 1, Seg: 16, Happy: 1, Secret: make([]byte, 65)},
	}
	for _, far := range odd() {
		bad = append(bad, params(far, 4, 16, 1), params(2, far, 16, 1), params(2, 4, 16, far))
		if far < 1 || far > api.MaxSeg {
			bad = append(bad, params(2, 4, far, 1))
		}
	}
	return bad
}

// TestP24_4Params: parameters that may not be are told ahead of the file's size and of the lease, of a literal file, too.
func TestP24_4Params(t *testing.T) {
	n := begun(t, roomyServers(3))
	n.Wait(2)
	great := make([]byte, api.MaxFile+1)
	for _, p := range badParams() {
		for _, size := range []int{0, 32, 33, 40, len(great)} {
			for _, until := range []int{50, -1} {
				wantNoPut(t, n, great[:size], p, lease(1, until), api.ErrParams)
			}
		}
	}
	wantUntouched(t, n, 2, 0)
}

// TestP24_4SizeAndLease: a file that is too great, ahead of a lease that may not be; a literal file needs such a one, too; both ahead of too many segments.
func TestP24_4SizeAndLease(t *testing.T) {
	n := begun(t, roomyServers(3))
	great := make([]byte, api.MaxFile+1)
	_, p := example(1)
	for _, until := range []int{0, 50, api.MaxTick, -1, api.MaxTick + 1} {
		wantNoPut(t, n, great, p, lease(1, until), api.ErrSize)
		wantNoPut(t, n, great, params(255, 255, api.MaxSeg, 255), lease(1, until), api.ErrSize)
	}
	for _, until := range []int{-1, api.MaxTick + 1, math.MinInt, math.MaxInt} {
		for _, size := range []int{0, 10, 32, 33, 40, 100000, api.MaxFile} {
			wantNoPut(t, n, great[:size], p, lease(1, until), api.ErrArg)
		}
	}
	wantUntouched(t, n, 0, 0)
}

// TestP24_4Segments: 512 segments may be, 513 not.
func TestP24_4Segments(t *testing.T) {
	n := begun(t, roomyServers(3))
	p := params(3, 5, 10, 1) // segments of 12 bytes
	for _, size := range []int{6145, 6146, 100000, api.MaxFile} {
		wantNoPut(t, n, make([]byte, size), p, lease(1, 50), api.ErrParams)
	}
	wantUntouched(t, n, 0, 0)
	if s, e := put.Put(n, filled(6144), p, lease(1, 50)); e != api.OK || len(s.Placed) != 5 || s.Cap.Read.Size != 6144 {
		t.Errorf("512 segments: %+v, %d", s, e)
	}
}

// TestP24_4Greatest: a file of MaxFile bytes.
func TestP24_4Greatest(t *testing.T) {
	n := begun(t, roomyServers(2))
	s, e := put.Put(n, make([]byte, api.MaxFile), params(2, 3, api.MaxSeg, 2), lease(1, 50))
	if e != api.OK || len(s.Placed) != 3 || s.Cap.Read.Size != api.MaxFile {
		t.Errorf("%+v, %d", s, e)
	}
}

// TestP24_4LeaseEdges: the first and the last tick to which a lease may run.
func TestP24_4LeaseEdges(t *testing.T) {
	file, p := example(3)
	o := order(t, made(t, file, p).Verify.Index, 3)
	for _, until := range []int{0, api.MaxTick} {
		wantPut(t, begun(t, roomyServers(3)), file, p, lease(math.MaxUint32, until), on(o[0], 0), on(o[1], 1), on(o[2], 2), on(o[0], 3))
	}
	n := begun(t, roomyServers(3))
	n.Wait(6)
	wantNoPut(t, n, file, p, lease(1, 5), api.ErrUnhappy) // it runs no more, so nobody stores
	wantUntouched(t, n, 10, 15)
}

// TestP5Happy: shares on just Happy servers are enough, on one less they are not.
func TestP5Happy(t *testing.T) {
	file := filled(40)
	m := made(t, file, params(2, 6, 16, 1))
	for servers := 1; servers <= 6; servers++ {
		for empty := range servers + 1 {
			for happy := 1; happy <= 6; happy++ {
				n := begun(t, slices.Concat(roomyServers(servers-empty), slices.Repeat(rooms(0), empty)))
				p := params(2, 6, 16, happy)
				if servers-empty < happy {
					wantNoPut(t, n, file, p, lease(1, 90), api.ErrUnhappy)
					wantNoneLeft(t, n, m.Verify.Index, 1)
				} else if s, e := put.Put(n, file, p, lease(1, 90)); e != api.OK || len(s.Placed) != 6 || s.Cap.Read != m.Read {
					t.Errorf("%d of %d servers without room, Happy %d: %+v, %d", empty, servers, happy, s, e)
				}
			}
		}
	}
}

// TestP5Few: just K numbers are enough, one less is not, however many servers there are.
func TestP5Few(t *testing.T) {
	file := filled(100)
	for k := 1; k <= 5; k++ {
		p := params(k, 5, 20, 1)
		size := len(made(t, file, p).Shares[0])
		for fit := range 6 {
			n := begun(t, rooms(0, fit*size+size-1, 0))
			if fit < k {
				wantNoPut(t, n, file, p, lease(1, 90), api.ErrUnhappy)
			} else if s, e := put.Put(n, file, p, lease(1, 90)); e != api.OK || len(s.Placed) != fit {
				t.Errorf("K %d, room for %d: %+v, %d", k, fit, s, e)
			}
		}
	}
}

// TestP5Said: it counts what is said to be stored: a share whose reply was lost does not count, one of which a liar says so does.
func TestP5Said(t *testing.T) {
	file, p := filled(40), params(1, 1, 40, 1)
	i := made(t, file, p).Verify.Index
	n := begun(t, roomyServers(1), []api.Fate{lose()})
	wantNoPut(t, n, file, p, lease(1, 90), api.ErrUnhappy)
	wantSent(t, n, 1, sent{10, 0, releaseBytes(i, 1)})
	wantNoneLeft(t, n, i, 1)
	n = begun(t, rooms(0), []api.Fate{lie(repStored)})
	wantPut(t, n, file, p, lease(1, 90), on(0, 0))
	wantUntouched(t, n, 1, 1)
}

// TestP24_4ReleasesAll: whatever that Who has under the index is given up on all servers, what was there ahead, too; what others have stays, and so does what is under another index.
func TestP24_4ReleasesAll(t *testing.T) {
	file, p := example(3)
	m := made(t, file, p)
	i := m.Verify.Index
	if i[0] == 255 {
		t.Fatal("another file is wanted: no index is above this one's")
	}
	share := func(i api.Index, number int, leases ...api.Lease) api.Kept {
		return api.Kept{Index: i, Number: number, Bytes: m.Shares[number], Leases: leases}
	}
	one, two := lease(1, 500), lease(2, 500)
	other := i
	other[0]++ // above it, so that the store's shares rise
	held := api.Store{Kept: []api.Kept{share(i, 1, two), share(i, 2, one, two), share(i, 3, one)}}
	held.Kept = append(held.Kept, share(other, 0, one))
	held.Room = 4 * len(m.Shares[0]) // not one more
	n := begun(t, []api.Store{held, {Room: 0}, {Room: 0}})
	wantNoPut(t, n, file, p, lease(1, 400), api.ErrUnhappy)
	wantNoneLeft(t, n, i, 1)
	if l := kept(t, n, 0, i, 2); !slices.Equal(l, []int{1, 2}) {
		t.Errorf("%v", l)
	}
	if l := kept(t, n, 0, other, 1); !slices.Equal(l, []int{0}) {
		t.Errorf("%v", l)
	}
	calls := n.Transcript()
	for s, c := range calls[len(calls)-3:] {
		if c.Server != s || !bytes.Equal(c.Request, releaseBytes(i, 1)) {
			t.Errorf("%d: %v", s, c)
		}
	}
}

// TestP24_7ReleaseLost: only a server that did the release has given the lease up.
func TestP24_7ReleaseLost(t *testing.T) {
	file, p := example(4)
	i := made(t, file, p).Verify.Index
	o := order(t, i, 3)
	fates := make([][]api.Fate, 3)
	fates[o[0]] = []api.Fate{honest(1), honest(1), drop()} // numbers 0 and 3, the release
	fates[o[1]] = []api.Fate{honest(1), lose()}
	n := begun(t, roomyServers(3), fates...)
	wantNoPut(t, n, file, p, lease(9, 500), api.ErrUnhappy)
	for rank, want := range [][]int{{0, 3}, nil, nil} {
		if l := kept(t, n, o[rank], i, 9); !slices.Equal(l, want) {
			t.Errorf("rank %d keeps %v, want %v", rank, l, want)
		}
	}
}

// many are parameters under which shares are spread in all sorts of ways.
func many() []api.Params {
	return []api.Params{params(1, 1, 40, 1), params(1, 2, 33, 1), params(2, 4, 16, 2), params(3, 5, 10, 1), params(3, 10, 64, 3), params(7, 7, 20, 1), params(20, 40, 80, 1), params(2, 255, 100, 1), params(255, 255, 255, 1)}
}

// TestP24_6AllHonest: each number lies on the server of its rank, behind one round.
func TestP24_6AllHonest(t *testing.T) {
	for _, p := range many() {
		file := filled(200 + p.N)
		m := made(t, file, p)
		for _, servers := range []int{1, 2, 3, 4, 5, 6, 11, 31, 32} {
			p.Happy = min(p.N, servers)
			o := order(t, m.Verify.Index, servers)
			var want []api.Pair
			var calls []sent
			for number := range p.N {
				s := o[number%servers]
				want = append(want, on(s, number))
				calls = append(calls, sent{5, s, storeBytes(m.Verify.Index, number, lease(3, 5), m.Shares[number])})
			}
			n := begun(t, slices.Repeat(rooms(p.N*len(m.Shares[0])), servers)) // shares of one file have one length
			n.Wait(5)
			wantPut(t, n, file, p, lease(3, 5), want...)
			wantSent(t, n, 0, calls...)
			wantUntouched(t, n, 6, p.N)
			if t.Failed() {
				t.Fatalf("%+v, %d servers", p, servers)
			}
		}
	}
}

// TestP24_6SharesAhead: shares of this file that are there already stand in nobody's way; nor does what lies under other indices.
func TestP24_6SharesAhead(t *testing.T) {
	file, p := example(3)
	m := made(t, file, p)
	i := m.Verify.Index
	o := order(t, i, 3)
	var leases []api.Lease
	for who := range uint32(api.MaxLeases - 1) {
		leases = append(leases, lease(10+who, 90))
	}
	other := i
	other[0] ^= 128
	store := api.Store{Room: 1 << 20}
	for number, share := range m.Shares {
		store.Kept = append(store.Kept, api.Kept{Index: i, Number: number, Bytes: share, Leases: leases}, api.Kept{Index: other, Number: number, Bytes: []byte{9}, Leases: leases})
	}
	slices.SortStableFunc(store.Kept, func(a, b api.Kept) int { return bytes.Compare(a.Index[:], b.Index[:]) })
	n := begun(t, []api.Store{store, store, store})
	wantPut(t, n, file, p, lease(1, 50), on(o[0], 0), on(o[1], 1), on(o[2], 2), on(o[0], 3))
	wantUntouched(t, n, 1, 4)
	// And each of them having as many leases as may be now, one of that Who's among them.
	wantPut(t, n, file, p, lease(1, 40), on(o[0], 0), on(o[1], 1), on(o[2], 2), on(o[0], 3))
	wantUntouched(t, n, 2, 8)
}

// TestP24_8Again: a put behind a put answers the same, whatever room the servers have.
func TestP24_8Again(t *testing.T) {
	puts, moved := 0, 0
	for seed := range uint64(100) {
		d := drawn(seed)
		file, p := filled(33+d.IntN(200)), d.params()
		m := made(t, file, p)
		var stores []api.Store
		for range d.IntN(6) {
			stores = append(stores, api.Store{Room: d.IntN(p.N * len(m.Shares[0]) * 3 / 2)})
		}
		n := begun(t, stores, d.inTime(len(stores))...)
		first, e := put.Put(n, file, p, lease(1, 500+d.IntN(100)))
		if e != api.OK {
			continue
		}
		puts++
		if n.Made() > p.N {
			moved++
		}
		n.Wait(d.IntN(50))
		if again, e := put.Put(n, file, p, lease(1, 500+d.IntN(100))); e != api.OK || !sameStored(again, first) {
			t.Fatalf("seed %d: %+v, %d, first %+v", seed, again, e, first)
		}
	}
	if puts < 30 || moved < 10 {
		t.Errorf("%d puts, %d of them in more than one round: too few to tell much", puts, moved)
	}
}

// TestP2OneRecipe: identical inputs have the same capability on whatever net, and it hangs on neither Happy nor the lease.
func TestP2OneRecipe(t *testing.T) {
	for seed := range uint64(40) {
		d := drawn(seed)
		file, p := filled(33+d.IntN(300)), d.params()
		p.Secret = filled(d.IntN(api.MaxSecret + 1))
		want, e := recipe.Cap(file, p)
		if e != api.OK {
			t.Fatal(e)
		}
		for servers := 1; servers <= 5; servers += 2 {
			p.Happy = 1 + d.IntN(min(p.N, servers))
			n := begun(t, roomyServers(servers), d.inTime(servers)...)
			s, e := put.Put(n, file, p, lease(uint32(seed), 1000+d.IntN(1000)))
			if e != api.OK || !sameCap(s.Cap, api.Cap{Kind: api.CapRead, Read: want}) {
				t.Fatalf("seed %d, %d servers: %+v, %d", seed, servers, s, e)
			}
		}
	}
}

// TestP24_5Shares: what the servers hold behind a put is the recipe's shares, each under its number.
func TestP24_5Shares(t *testing.T) {
	for _, p := range many() {
		file := filled(300)
		p.Secret = []byte(fmt.Sprint("secret ", p.N))
		m := made(t, file, p)
		n := begun(t, roomyServers(4))
		s, e := put.Put(n, file, p, lease(3, 77))
		if e != api.OK || s.Cap.Read != m.Read {
			t.Fatalf("%+v: %d", p, e)
		}
		for _, pair := range s.Placed {
			store, _ := n.Store(pair.Server)
			at := slices.IndexFunc(store.Kept, func(k api.Kept) bool { return k.Number == pair.Number })
			if at < 0 || store.Kept[at].Index != m.Verify.Index || !bytes.Equal(store.Kept[at].Bytes, m.Shares[pair.Number]) || !slices.Equal(store.Kept[at].Leases, []api.Lease{lease(3, 77)}) {
				t.Errorf("%+v: %v", p, pair)
			}
		}
	}
}
