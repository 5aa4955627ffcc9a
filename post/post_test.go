package post_test

import (
	"bytes"
	"math"
	"slices"
	"testing"

	"strongroom/api"
	"strongroom/post"
	"strongroom/wire"
)

var (
	x = api.Index{7}
	y = api.Index{200}
)

func bytesOf(q api.Request) []byte {
	b, e := wire.PutRequest(q)
	if e != api.OK {
		panic("a request that may not be")
	}
	return b
}

func have(i api.Index) []byte { return bytesOf(api.Request{Kind: api.ReqHave, Index: i}) }

func store(i api.Index, number int, b string, who uint32, until int) []byte {
	return bytesOf(api.Request{Kind: api.ReqStore, Index: i, Number: number, Lease: api.Lease{Who: who, Until: until}, Bytes: []byte(b)})
}

func fetch(i api.Index, number, at, n int) []byte {
	return bytesOf(api.Request{Kind: api.ReqFetch, Index: i, Number: number, At: at, Len: n})
}

func release(i api.Index, who uint32) []byte {
	return bytesOf(api.Request{Kind: api.ReqRelease, Index: i, Lease: api.Lease{Who: who}})
}

func to(server int, b []byte) api.Call { return api.Call{Server: server, Bytes: b} }

// honest, lie, drop and lose give fates.
func honest(delay int) api.Fate { return api.Fate{Kind: api.FateHonest, Delay: delay} }

func lie(delay int, b ...byte) api.Fate {
	return api.Fate{Kind: api.FateLie, Delay: delay, Bytes: b}
}

func drop(delay int) api.Fate { return api.Fate{Kind: api.FateDrop, Delay: delay} }

func lose(delay int) api.Fate { return api.Fate{Kind: api.FateLose, Delay: delay} }

// came and silent give answers.
func came(place, tick int, b ...byte) api.Answer {
	return api.Answer{Place: place, Came: true, Tick: tick, Bytes: b}
}

func silent(place, tick int) api.Answer { return api.Answer{Place: place, Tick: tick} }

// rooms gives stores without shares.
func rooms(sizes ...int) []api.Store {
	var stores []api.Store
	for _, s := range sizes {
		stores = append(stores, api.Store{Room: s})
	}
	return stores
}

// share gives a share as a store has it.
func share(i api.Index, number int, b string, until int) api.Kept {
	return api.Kept{Index: i, Number: number, Bytes: []byte(b), Leases: []api.Lease{{Who: 1, Until: until}}}
}

func begun(t *testing.T, stores []api.Store, fates ...[]api.Fate) *post.Net {
	t.Helper()
	n, e := post.New(stores, fates)
	if n == nil || e != api.OK {
		t.Fatalf("New: %v, %d", n, e)
	}
	return n
}

// example gives the net of the chapter's examples.
func example(t *testing.T) *post.Net {
	t.Helper()
	return begun(t, rooms(100, 100), []api.Fate{honest(3), lie(1, 6)}, []api.Fate{drop(0)})
}

func sameAnswer(a, b api.Answer) bool {
	return a.Place == b.Place && a.Came == b.Came && a.Tick == b.Tick && bytes.Equal(a.Bytes, b.Bytes)
}

func sameExchange(a, b api.Exchange) bool {
	return a.Number == b.Number && a.Server == b.Server && a.Sent == b.Sent && bytes.Equal(a.Request, b.Request) &&
		a.Came == b.Came && a.Tick == b.Tick && bytes.Equal(a.Reply, b.Reply)
}

func sameKept(a, b api.Kept) bool {
	return a.Index == b.Index && a.Number == b.Number && bytes.Equal(a.Bytes, b.Bytes) && slices.Equal(a.Leases, b.Leases)
}

func sameStore(a, b api.Store) bool {
	return a.Room == b.Room && a.Tick == b.Tick && slices.EqualFunc(a.Kept, b.Kept, sameKept)
}

func wantAsk(t *testing.T, n *post.Net, batch []api.Call, want ...api.Answer) {
	t.Helper()
	got, e := n.Ask(batch)
	if e != api.OK || !slices.EqualFunc(got, want, sameAnswer) {
		t.Errorf("Ask: %v, %d, want %v", got, e, want)
	}
}

func wantRefused(t *testing.T, n *post.Net, batch []api.Call, want api.Errno) {
	t.Helper()
	if got, e := n.Ask(batch); len(got) != 0 || e != want {
		t.Errorf("Ask: %v, %d, want the error %d", got, e, want)
	}
}

func wantWait(t *testing.T, n *post.Net, ticks int, want api.Errno) {
	t.Helper()
	if e := n.Wait(ticks); e != want {
		t.Errorf("Wait(%d): %d, want %d", ticks, e, want)
	}
}

// wantAt holds the tick and the number of calls against what they must be; all servers must have that tick, too.
func wantAt(t *testing.T, n *post.Net, tick, made int) {
	t.Helper()
	if n.Tick() != tick || n.Made() != made || len(n.Transcript()) != made {
		t.Errorf("tick %d, made %d, in the transcript %d, want %d and %d", n.Tick(), n.Made(), len(n.Transcript()), tick, made)
	}
	for i := range n.Servers() {
		if s, e := n.Store(i); e != api.OK || s.Tick != tick {
			t.Errorf("server %d: tick %d, %d, want %d", i, s.Tick, e, tick)
		}
	}
}

func wantStore(t *testing.T, n *post.Net, server int, want api.Store) {
	t.Helper()
	if s, e := n.Store(server); e != api.OK || !sameStore(s, want) {
		t.Errorf("Store(%d): %v, %d, want %v", server, s, e, want)
	}
}

// TestP21_2Examples goes through the chapter's examples 1 to 4.
func TestP21_2Examples(t *testing.T) {
	n, h := example(t), have(x)
	wantAt(t, n, 0, 0)
	wantAsk(t, n, []api.Call{to(0, h), to(1, h), to(0, h)}, came(2, 1, 6), came(0, 3, 1, 0), silent(1, 10))
	wantAt(t, n, 10, 3)
	wantAsk(t, n, []api.Call{to(1, h), to(1, []byte{9})}, came(0, 11, 1, 0), came(1, 11, 7))
	wantAt(t, n, 11, 5)
	wantRefused(t, n, []api.Call{to(0, h), to(2, h)}, api.ErrArg)
	wantAt(t, n, 11, 5)
	wantAsk(t, n, nil)
	wantAt(t, n, 11, 5)
	wantWait(t, n, 5, api.OK)
	wantAt(t, n, 16, 5)
	wantWait(t, n, -1, api.ErrArg)
	wantAt(t, n, 16, 5)
	wantWait(t, n, api.MaxTick, api.OK)
	wantAt(t, n, api.MaxTick, 5)
}

func TestP21_1New(t *testing.T) {
	held := api.Store{Room: 9, Kept: []api.Kept{share(x, 2, "ab", 5), share(y, 0, "c", 0)}}
	for i, stores := range [][]api.Store{
		nil,
		{},
		{{}},
		{held},
		{held, {Room: api.MaxRoom}, held},
		make([]api.Store, 31),
		make([]api.Store, api.MaxServers),
	} {
		for rows := range len(stores) + 1 {
			n := begun(t, stores, make([][]api.Fate, rows)...)
			if n.Servers() != len(stores) {
				t.Errorf("%d: %d servers", i, n.Servers())
			}
			wantAt(t, n, 0, 0)
			for j, s := range stores {
				wantStore(t, n, j, s)
			}
		}
	}
}

func TestP21_1NoServers(t *testing.T) {
	n := begun(t, nil)
	wantAsk(t, n, nil)
	wantAsk(t, n, []api.Call{})
	wantRefused(t, n, []api.Call{to(0, have(x))}, api.ErrArg)
	wantAt(t, n, 0, 0)
	wantWait(t, n, 7, api.OK)
	wantAt(t, n, 7, 0)
	if _, e := n.Store(0); e != api.ErrArg {
		t.Error(e)
	}
}

func TestP21_1Refused(t *testing.T) {
	late, bad := api.Store{Tick: 1}, api.Store{Room: -1}
	many := make([]api.Store, api.MaxServers+1)
	unkept := api.Store{Room: 9, Kept: []api.Kept{{Index: x}}}
	for i, c := range []struct {
		stores []api.Store
		rows   int
		want   api.Errno
	}{
		{many, 0, api.ErrArg},
		{many, 34, api.ErrArg},
		{make([]api.Store, 100), 0, api.ErrArg},
		{append([]api.Store{bad}, many...), 0, api.ErrArg},
		{[]api.Store{late}, 0, api.ErrArg},
		{[]api.Store{late}, 2, api.ErrArg},
		{[]api.Store{bad, late}, 0, api.ErrArg},
		{[]api.Store{bad, late}, 3, api.ErrArg},
		{[]api.Store{{Room: -1, Tick: 1}}, 0, api.ErrArg},
		{[]api.Store{{}, {}, {Tick: -1}}, 0, api.ErrArg},
		{[]api.Store{{Tick: math.MinInt}}, 0, api.ErrArg},
		{[]api.Store{{Tick: api.MaxTick}, {}}, 0, api.ErrArg},
		{nil, 1, api.ErrFates},
		{[]api.Store{{}}, 2, api.ErrFates},
		{[]api.Store{bad}, 2, api.ErrFates},
		{make([]api.Store, api.MaxServers), 33, api.ErrFates},
		{[]api.Store{bad}, 1, api.ErrStored},
		{[]api.Store{{}, bad}, 0, api.ErrStored},
		{[]api.Store{{}, {}, unkept}, 3, api.ErrStored},
		{[]api.Store{{Room: api.MaxRoom + 1}}, 0, api.ErrStored},
		{[]api.Store{{Kept: []api.Kept{share(x, 2, "ab", 5)}}}, 0, api.ErrStored},
	} {
		if n, e := post.New(c.stores, make([][]api.Fate, c.rows)); n != nil || e != c.want {
			t.Errorf("%d: %v, %d, want %d", i, n, e, c.want)
		}
	}
}

// TestP21_1Apart: nets that are made of the same things have nothing in common.
func TestP21_1Apart(t *testing.T) {
	stores, fates := []api.Store{{Room: 9, Kept: []api.Kept{share(x, 2, "ab", 50)}}}, []api.Fate{lie(2, 6)}
	one, other := begun(t, stores, fates), begun(t, stores, fates)
	wantAsk(t, one, []api.Call{to(0, have(x)), to(0, release(x, 1))}, came(1, 1, 1, 1, 2), came(0, 2, 6))
	wantAt(t, other, 0, 0)
	wantStore(t, other, 0, stores[0])
	wantAsk(t, other, []api.Call{to(0, release(x, 1)), to(0, have(x))}, came(1, 1, 1, 1, 2), came(0, 2, 6))
}

func TestP21_3Wait(t *testing.T) {
	n := begun(t, []api.Store{{Room: 9, Kept: []api.Kept{share(x, 0, "ab", 4), share(x, 1, "ab", 5)}}, {Room: 1}})
	wantWait(t, n, 0, api.OK)
	wantAt(t, n, 0, 0)
	wantWait(t, n, 4, api.OK)
	wantAt(t, n, 4, 0)
	wantStore(t, n, 0, api.Store{Room: 9, Tick: 4, Kept: []api.Kept{share(x, 0, "ab", 4), share(x, 1, "ab", 5)}})
	wantWait(t, n, 1, api.OK)
	wantAt(t, n, 5, 0)
	wantStore(t, n, 0, api.Store{Room: 9, Tick: 5, Kept: []api.Kept{share(x, 1, "ab", 5)}})
	for _, no := range []int{-1, math.MinInt, -api.MaxTick, api.MaxTick + 1, math.MaxInt} {
		wantWait(t, n, no, api.ErrArg)
		wantAt(t, n, 5, 0)
	}
	wantWait(t, n, api.MaxTick-6, api.OK)
	wantAt(t, n, api.MaxTick-1, 0)
	wantWait(t, n, 1, api.OK)
	wantAt(t, n, api.MaxTick, 0)
	for _, more := range []int{0, 1, api.MaxTick} {
		wantWait(t, n, more, api.OK)
		wantAt(t, n, api.MaxTick, 0)
	}
	wantStore(t, n, 0, api.Store{Room: 9, Tick: api.MaxTick})
	wantWait(t, n, api.MaxTick+1, api.ErrArg)
}

// TestP21_3Leap: a wait that would go beyond the last tick ends there.
func TestP21_3Leap(t *testing.T) {
	n := begun(t, []api.Store{{Room: 9, Kept: []api.Kept{share(x, 0, "ab", api.MaxTick)}}})
	wantWait(t, n, 3, api.OK)
	wantWait(t, n, api.MaxTick-2, api.OK)
	wantAt(t, n, api.MaxTick, 0)
	wantAsk(t, n, []api.Call{to(0, fetch(x, 0, 0, 2))}, came(0, api.MaxTick, 5, 0, 0, 0, 2, 'a', 'b'))
}

func TestP21_4Transcript(t *testing.T) {
	n, h := example(t), have(x)
	if l := n.Transcript(); len(l) != 0 {
		t.Error(l)
	}
	n.Ask([]api.Call{to(0, h), to(1, h), to(0, h)})
	n.Wait(2)
	n.Ask([]api.Call{to(0, h), to(2, h)})
	n.Ask(nil)
	n.Ask([]api.Call{to(1, nil), to(1, []byte{9})})
	want := []api.Exchange{
		{Number: 0, Server: 0, Sent: 0, Request: h, Came: true, Tick: 3, Reply: []byte{1, 0}},
		{Number: 1, Server: 1, Sent: 0, Request: h, Tick: 10},
		{Number: 2, Server: 0, Sent: 0, Request: h, Came: true, Tick: 1, Reply: []byte{6}},
		{Number: 3, Server: 1, Sent: 12, Came: true, Tick: 13, Reply: []byte{7}},
		{Number: 4, Server: 1, Sent: 12, Request: []byte{9}, Came: true, Tick: 13, Reply: []byte{7}},
	}
	for range 2 {
		if l := n.Transcript(); !slices.EqualFunc(l, want, sameExchange) {
			t.Errorf("%v, want %v", l, want)
		}
	}
}

func TestP21_5Store(t *testing.T) {
	stores := []api.Store{{Room: 9}, {Room: 20, Kept: []api.Kept{share(x, 2, "ab", 5), share(y, 0, "c", 9)}}}
	n := begun(t, stores)
	wantStore(t, n, 0, stores[0])
	wantStore(t, n, 1, stores[1])
	wantAsk(t, n, []api.Call{to(0, store(y, 4, "de", 1, 8))}, came(0, 1, 2))
	wantStore(t, n, 0, api.Store{Room: 9, Tick: 1, Kept: []api.Kept{share(y, 4, "de", 8)}})
	wantWait(t, n, 5, api.OK)
	wantStore(t, n, 1, api.Store{Room: 20, Tick: 6, Kept: []api.Kept{share(y, 0, "c", 9)}})
	for _, no := range []int{-1, 2, 3, 32, math.MinInt, math.MaxInt} {
		if s, e := n.Store(no); !sameStore(s, api.Store{}) || e != api.ErrArg {
			t.Errorf("Store(%d): %v, %d", no, s, e)
		}
		if e := n.Spoil(no, y, 0, []byte("z")); e != api.ErrArg {
			t.Errorf("Spoil(%d): %d", no, e)
		}
	}
	wantAt(t, n, 6, 1)
}

func TestP21_5Spoil(t *testing.T) {
	stores := []api.Store{{Room: 9, Kept: []api.Kept{share(x, 2, "ab", 5)}}, {Room: 9, Kept: []api.Kept{share(x, 2, "ab", 5)}}}
	n := begun(t, stores)
	for i, c := range []struct {
		server int
		index  api.Index
		number int
		b      string
		want   api.Errno
	}{
		{0, x, 3, "zz", api.ErrArg},
		{0, x, -1, "zz", api.ErrArg},
		{0, x, math.MaxInt, "zz", api.ErrArg},
		{0, y, 2, "zz", api.ErrArg},
		{0, x, 2, "z", api.ErrArg},
		{0, x, 2, "zzz", api.ErrArg},
		{0, x, 2, "", api.ErrArg},
		{2, x, 2, "zz", api.ErrArg},
		{1, x, 2, "zz", api.OK},
	} {
		if e := n.Spoil(c.server, c.index, c.number, []byte(c.b)); e != c.want {
			t.Errorf("%d: %d, want %d", i, e, c.want)
		}
		wantStore(t, n, 0, stores[0])
	}
	wantStore(t, n, 1, api.Store{Room: 9, Kept: []api.Kept{share(x, 2, "zz", 5)}})
	wantAt(t, n, 0, 0)
	wantAsk(t, n, []api.Call{to(0, fetch(x, 2, 0, 2)), to(1, fetch(x, 2, 0, 2))}, came(0, 1, 5, 0, 0, 0, 2, 'a', 'b'), came(1, 1, 5, 0, 0, 0, 2, 'z', 'z'))
}

// notMade gives nets that New did not make: a copy of one that it made is none, either.
func notMade(t *testing.T) []*post.Net {
	n := example(t)
	n.Ask([]api.Call{to(0, have(x))})
	n.Wait(3)
	copied := *n
	return []*post.Net{nil, {}, new(post.Net), &copied}
}

func TestP21_6NoNet(t *testing.T) {
	for i, n := range notMade(t) {
		if n.Servers() != 0 || n.Tick() != 0 || n.Made() != 0 || len(n.Transcript()) != 0 {
			t.Errorf("%d: %d, %d, %d, %v", i, n.Servers(), n.Tick(), n.Made(), n.Transcript())
		}
		wantRefused(t, n, nil, api.ErrNil)
		wantRefused(t, n, []api.Call{to(0, have(x))}, api.ErrNil)
		wantRefused(t, n, []api.Call{to(-1, nil)}, api.ErrNil)
		for _, ticks := range []int{0, 1, -1, math.MaxInt} {
			wantWait(t, n, ticks, api.ErrNil)
		}
		for _, server := range []int{0, 1, -1, math.MaxInt} {
			if s, e := n.Store(server); !sameStore(s, api.Store{}) || e != api.ErrNil {
				t.Errorf("%d: Store(%d): %v, %d", i, server, s, e)
			}
			if e := n.Spoil(server, x, 0, nil); e != api.ErrNil {
				t.Errorf("%d: Spoil(%d): %d", i, server, e)
			}
		}
		if n.Tick() != 0 || n.Made() != 0 {
			t.Errorf("%d: something came of it", i)
		}
	}
}
