package put_test

import (
	"math"
	"slices"
	"testing"

	"strongroom/api"
	"strongroom/post"
	"strongroom/put"
)

func try(number int, servers ...int) api.Try { return api.Try{Number: number, Servers: servers} }

func on(server, number int) api.Pair { return api.Pair{Server: server, Number: number} }

// four are shares with 2, 3, 1 and no bytes.
func four() [][]byte { return [][]byte{{1, 1}, {2, 2, 2}, {3}, {}} }

// wantPlaced holds what Place answers.
func wantPlaced(t *testing.T, n *post.Net, shares [][]byte, tries []api.Try, l api.Lease, placed []api.Pair, lacking ...int) {
	t.Helper()
	p, s, e := put.Place(n, x, shares, tries, l)
	if e != api.OK || !slices.Equal(p, placed) || !slices.Equal(s, lacking) {
		t.Errorf("Place: %v, %v, %d, want %v, %v", p, s, e, placed, lacking)
	}
}

func wantNotPlaced(t *testing.T, n *post.Net, shares [][]byte, tries []api.Try, l api.Lease, want api.Errno) {
	t.Helper()
	if p, s, e := put.Place(n, x, shares, tries, l); e != want || len(p) != 0 || len(s) != 0 {
		t.Errorf("Place %v: %v, %v, %d instead of %d", tries, p, s, e, want)
	}
}

func TestP24_2NoNet(t *testing.T) {
	for _, n := range noNets(t) {
		wantNotPlaced(t, n, four(), []api.Try{try(0, 1)}, lease(1, 50), api.ErrNil)
		wantNotPlaced(t, n, nil, nil, lease(1, 50), api.ErrNil)
		wantNotPlaced(t, n, nil, []api.Try{try(9, 9)}, lease(1, -1), api.ErrNil) // ahead of all else
	}
}

// badTries do not go with four shares and three servers.
func badTries() [][]api.Try {
	bad := [][]api.Try{
		{try(4, 0)}, {try(-1, 0)}, {try(0, 3)}, {try(0, -1)}, {try(0, 1, 1)}, {try(0, 0, 1, 2, 0)}, {try(0, 0, 1, 2, 3)},
		{try(0), try(0)}, {try(1, 0), try(0, 1), try(1, 2)}, {try(0, 0), try(1, 0), try(2, 0), try(3, 0), try(4)}, {try(0, 0), try(1, 0, 1), try(2, 2, 1, 2)}, {try(0, 0), try(1, 3)},
	}
	for _, far := range odd() {
		bad = append(bad, []api.Try{try(far, 0)}, []api.Try{try(0, far)}, []api.Try{try(3, 2), try(far)}, []api.Try{try(3, 2, far)})
	}
	return bad
}

func TestP24_2Tries(t *testing.T) {
	n := begun(t, rooms(50, 50, 50))
	n.Wait(4)
	for _, tries := range badTries() {
		wantNotPlaced(t, n, four(), tries, lease(1, 50), api.ErrTries)
		wantNotPlaced(t, n, four(), tries, lease(1, -1), api.ErrTries) // ahead of ErrArg
	}
	wantNotPlaced(t, n, nil, []api.Try{try(0)}, lease(1, 50), api.ErrTries)
	wantNotPlaced(t, begun(t, nil), four(), []api.Try{try(0, 0)}, lease(1, 50), api.ErrTries)
	wantUntouched(t, n, 4, 0)
	for i := range 3 {
		if s, _ := n.Store(i); len(s.Kept) != 0 {
			t.Errorf("server %d keeps %v", i, s.Kept)
		}
	}
}

// TestP24_2NoRequest: a request that may not be is refused, wherever it stands, and whether anybody would be asked or not.
func TestP24_2NoRequest(t *testing.T) {
	n := begun(t, rooms(50, 50, 50))
	for _, until := range []int{-1, api.MaxTick + 1, math.MinInt, math.MaxInt} {
		wantNotPlaced(t, n, four(), []api.Try{try(0, 0), try(1, 1)}, lease(1, until), api.ErrArg)
		wantNotPlaced(t, n, four(), []api.Try{try(2)}, lease(1, until), api.ErrArg)
	}
	long := make([]byte, api.MaxShare+1)
	shares := [][]byte{{1}, long, long[:1]}
	wantNotPlaced(t, n, shares, []api.Try{try(0, 0), try(2, 1), try(1, 2)}, lease(1, 50), api.ErrArg)
	wantNotPlaced(t, n, shares, []api.Try{try(1)}, lease(1, 50), api.ErrArg)
	many := make([][]byte, 1000)
	for _, number := range []int{255, 256, 511, 999} {
		wantNotPlaced(t, n, many, []api.Try{try(0, 0), try(number, 1)}, lease(1, 50), api.ErrArg)
		wantNotPlaced(t, n, many, []api.Try{try(number)}, lease(1, 50), api.ErrArg)
	}
	wantUntouched(t, n, 0, 0)
	// What is not tried is not looked at.
	wantPlaced(t, n, shares, []api.Try{try(2, 1)}, lease(1, 50), []api.Pair{on(1, 2)})
	wantPlaced(t, n, four(), nil, lease(1, -1), nil)
	wantPlaced(t, n, many, []api.Try{try(254, 0)}, lease(1, api.MaxTick), []api.Pair{on(0, 254)})
}

// TestP24_2Greatest: the greatest share that may be.
func TestP24_2Greatest(t *testing.T) {
	share := make([]byte, api.MaxShare)
	share[api.MaxShare-1] = 9
	n := begun(t, rooms(api.MaxShare-1, api.MaxShare))
	wantPlaced(t, n, [][]byte{share}, []api.Try{try(0, 0, 1)}, lease(1, 50), []api.Pair{on(1, 0)})
	if s, _ := n.Store(1); len(s.Kept) != 1 || !slices.Equal(s.Kept[0].Bytes, share) {
		t.Error("it is not what was stored")
	}
}

// TestP24_2Examples goes through the chapter's example 5.
func TestP24_2Examples(t *testing.T) {
	n := begun(t, rooms(50, 50, 50))
	wantNotPlaced(t, n, four(), []api.Try{try(1, 0), try(1, 1)}, lease(1, 50), api.ErrTries)
	wantNotPlaced(t, n, four(), []api.Try{try(1, 0, 3)}, lease(1, 50), api.ErrTries)
	wantUntouched(t, n, 0, 0)
}

// TestP24_2Rounds: which calls each round has, at which tick, and what is answered in the end.
func TestP24_2Rounds(t *testing.T) {
	n := begun(t, rooms(5, 3, 100), []api.Fate{honest(2), honest(1)}, []api.Fate{honest(1), honest(1), honest(4)})
	l := lease(0x01020304, 500)
	tries := []api.Try{try(2, 1, 0), try(0, 1), try(1, 1, 0, 2), try(3)}
	wantPlaced(t, n, four(), tries, l, []api.Pair{on(1, 2), on(1, 0), on(0, 1)}, 3)
	wantSent(t, n, 0,
		sent{0, 1, storeBytes(x, 2, l, []byte{3})}, sent{0, 1, storeBytes(x, 0, l, []byte{1, 1})}, sent{0, 1, storeBytes(x, 1, l, []byte{2, 2, 2})},
		sent{4, 0, storeBytes(x, 1, l, []byte{2, 2, 2})})
	wantUntouched(t, n, 6, 4)
	s, _ := n.Store(0)
	if len(s.Kept) != 1 || s.Kept[0].Number != 1 || s.Kept[0].Index != x || !slices.Equal(s.Kept[0].Leases, []api.Lease{l}) {
		t.Errorf("%v", s)
	}
}

// TestP24_2NextServer: whatever is no RepStored lets the share go on to the next of its servers; what is one, whoever says it, ends its way.
func TestP24_2NextServer(t *testing.T) {
	long := make([]byte, api.MaxReply+1)
	long[0] = repStored
	for i, c := range []struct {
		fate   api.Fate
		stored bool
	}{
		{honest(1), true}, {honest(10), true}, {honest(0), true}, {lie(repStored), true}, {api.Fate{Kind: api.FateLie, Delay: 10, Bytes: []byte{repStored}}, true},
		{drop(), false}, {lose(), false}, {honest(11), false}, {honest(1000), false}, {api.Fate{}, false}, {api.Fate{Kind: 5}, false}, {api.Fate{Kind: api.FateLie, Delay: 11, Bytes: []byte{repStored}}, false},
		{lie(), false}, {lie(0), false}, {lie(repFull), false}, {lie(repOther), false}, {lie(repRefused), false}, {lie(6), false}, {lie(1, 0), false}, {lie(1, 1, 0), false}, {lie(5, 0, 0, 0, 1, 2), false},
		{lie(repStored, 0), false}, {lie(repStored, repStored), false}, {lie(8), false}, {lie(255), false}, {lie(long...), false},
	} {
		n := begun(t, rooms(9, 9), []api.Fate{c.fate})
		want, calls := []api.Pair{on(0, 1)}, 1
		if !c.stored {
			want, calls = []api.Pair{on(1, 1)}, 2
		}
		wantPlaced(t, n, four(), []api.Try{try(1, 0, 1)}, lease(1, 50), want)
		if n.Made() != calls || t.Failed() {
			t.Fatalf("case %d: %d calls", i, n.Made())
		}
	}
}

// TestP24_2Refusing: servers that are honest and do not store.
func TestP24_2Refusing(t *testing.T) {
	other := api.Store{Room: 9, Kept: []api.Kept{{Index: x, Number: 1, Bytes: []byte{2, 2, 3}, Leases: []api.Lease{{Who: 1, Until: 50}}}}}
	same := api.Store{Room: 3, Kept: []api.Kept{{Index: x, Number: 1, Bytes: []byte{2, 2, 2}, Leases: []api.Lease{{Who: 5, Until: 50}}}}}
	n := begun(t, []api.Store{{Room: 2}, other, same})
	wantPlaced(t, n, four(), []api.Try{try(1, 0, 1, 2)}, lease(1, 50), []api.Pair{on(2, 1)})
	for i, want := range []byte{repFull, repOther, repStored} {
		if c := n.Transcript()[i]; c.Server != i || !slices.Equal(c.Reply, []byte{want}) {
			t.Errorf("%d: %v, want %d", i, c, want)
		}
	}
	n.Wait(100)
	wantPlaced(t, n, four(), []api.Try{try(1, 2, 1), try(2, 0)}, lease(1, 102), nil, 1, 2) // at 103 the lease does not run, so all refuse
	wantUntouched(t, n, 105, 6)
}

// TestP24_2LastRound: a lease may run out while rounds go on.
func TestP24_2LastRound(t *testing.T) {
	n := begun(t, rooms(9, 9, 9), []api.Fate{drop()}, []api.Fate{drop()})
	wantPlaced(t, n, four(), []api.Try{try(0, 0, 1, 2), try(1, 2)}, lease(1, 19), []api.Pair{on(2, 1)}, 0)
	n = begun(t, rooms(9, 9, 9), []api.Fate{drop()}, []api.Fate{drop()})
	wantPlaced(t, n, four(), []api.Try{try(0, 0, 1, 2), try(1, 2)}, lease(1, 20), []api.Pair{on(2, 0), on(2, 1)})
}

// TestP24_2InTurn: what is told stands in the order of the tries, whenever and in which round it was stored.
func TestP24_2InTurn(t *testing.T) {
	n := begun(t, rooms(0, 9, 9), nil, []api.Fate{honest(7), honest(1)}, []api.Fate{honest(1), drop()})
	tries := []api.Try{try(3, 2, 0), try(1, 1), try(2, 2, 1), try(0, 0)}
	// 3 has no bytes, so that it takes no room; the second call to server 2 is dropped.
	wantPlaced(t, n, four(), tries, lease(1, 50), []api.Pair{on(2, 3), on(1, 1), on(1, 2)}, 0)
	if c := n.Transcript()[4]; n.Made() != 5 || c.Sent != 10 || c.Server != 1 {
		t.Errorf("%d calls, %v", n.Made(), c)
	}
	n = begun(t, rooms(0, 0, 0))
	wantPlaced(t, n, four(), []api.Try{try(2, 0, 1), try(0, 2), try(3), try(1, 1, 2, 0)}, lease(1, 50), nil, 2, 0, 3, 1)
	wantUntouched(t, n, 3, 6)
}

// TestP24_2OneBatch: what one server does for one call of a round, it has done for the next.
func TestP24_2OneBatch(t *testing.T) {
	n := begun(t, rooms(4, 4))
	wantPlaced(t, n, four(), []api.Try{try(0, 0, 1), try(1, 0, 1), try(2, 0, 1), try(3, 0)}, lease(1, 50), []api.Pair{on(0, 0), on(1, 1), on(0, 2), on(0, 3)})
	wantUntouched(t, n, 2, 5)
}

// TestP24_2NoCalls: without anybody to ask nothing is asked, and no tick goes by.
func TestP24_2NoCalls(t *testing.T) {
	n := begun(t, rooms(9, 9), []api.Fate{drop()})
	n.Wait(3)
	wantPlaced(t, n, four(), nil, lease(1, 50), nil)
	wantPlaced(t, n, nil, nil, lease(1, 50), nil)
	wantPlaced(t, n, four(), []api.Try{try(2), try(0), try(1)}, lease(1, 50), nil, 2, 0, 1)
	wantUntouched(t, n, 3, 0)
	wantPlaced(t, begun(t, nil), four(), []api.Try{try(2), try(0)}, lease(1, 50), nil, 2, 0)
}

func TestP24_3Release(t *testing.T) {
	keep := func(i api.Index, number int, leases ...api.Lease) api.Kept {
		return api.Kept{Index: i, Number: number, Bytes: []byte{byte(number)}, Leases: leases}
	}
	one, two := lease(1, 90), lease(2, 90)
	store := api.Store{Room: 50, Kept: []api.Kept{keep(x, 0, one), keep(x, 3, one, two), keep(x, 4, two), keep(y, 0, one)}}
	n := begun(t, []api.Store{store, store, store})
	if e := put.Release(n, x, []int{2, 0}, 1); e != api.OK {
		t.Errorf("%d", e)
	}
	wantSent(t, n, 0, sent{0, 2, releaseBytes(x, 1)}, sent{0, 0, releaseBytes(x, 1)})
	for i, left := range [][]int{nil, {0, 3}, nil} {
		if !slices.Equal(kept(t, n, i, x, 1), left) || !slices.Equal(kept(t, n, i, x, 2), []int{3, 4}) || !slices.Equal(kept(t, n, i, y, 1), []int{0}) {
			s, _ := n.Store(i)
			t.Errorf("server %d: %v", i, s)
		}
	}
	if e := put.Release(n, y, []int{1, 1, 0, 1}, 0xfffefdfc); e != api.OK {
		t.Errorf("%d", e)
	}
	who := releaseBytes(y, 0xfffefdfc)
	wantSent(t, n, 2, sent{1, 1, who}, sent{1, 1, who}, sent{1, 0, who}, sent{1, 1, who})
}

// TestP24_3WhateverComes: no reply and no odd one is a fault; but what is not done is not done.
func TestP24_3WhateverComes(t *testing.T) {
	store := api.Store{Room: 50, Kept: []api.Kept{{Index: x, Number: 2, Bytes: []byte{1}, Leases: []api.Lease{lease(1, 90)}}}}
	n := begun(t, slices.Repeat([]api.Store{store}, 5), []api.Fate{drop()}, []api.Fate{lie(1, 0)}, []api.Fate{lie(9, 9)}, []api.Fate{lose()}, []api.Fate{honest(11)})
	if e := put.Release(n, x, []int{0, 1, 2, 3, 4}, 1); e != api.OK {
		t.Errorf("%d", e)
	}
	for i, left := range []int{1, 1, 1, 0, 0} {
		if len(kept(t, n, i, x, 1)) != left {
			t.Errorf("server %d", i)
		}
	}
	wantUntouched(t, n, 10, 5)
}

func TestP24_3Refused(t *testing.T) {
	for _, n := range noNets(t) {
		for _, servers := range [][]int{nil, {0}, {5}, {-1}} {
			if e := put.Release(n, x, servers, 1); e != api.ErrNil {
				t.Errorf("%v: %d", servers, e)
			}
		}
	}
	store := api.Store{Room: 50, Kept: []api.Kept{{Index: x, Number: 2, Bytes: []byte{1}, Leases: []api.Lease{lease(1, 90)}}}}
	n := begun(t, []api.Store{store, store, store})
	for _, bad := range append(odd(), 3, 4, 32, 256) {
		for place := range 3 {
			if e := put.Release(n, x, slices.Insert([]int{0, 1}, place, bad), 1); e != api.ErrArg {
				t.Errorf("%d: %d", bad, e)
			}
		}
	}
	wantUntouched(t, n, 0, 0)
	if len(kept(t, n, 0, x, 1)) != 1 {
		t.Error("a refusal gave a lease up")
	}
	if e := put.Release(n, x, nil, 1); e != api.OK {
		t.Errorf("of no servers: %d", e)
	}
	wantUntouched(t, n, 0, 0)
}
