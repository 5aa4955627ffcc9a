package server_test

import (
	"bytes"
	"math"
	"reflect"
	"slices"
	"testing"

	"strongroom/api"
	"strongroom/server"
)

// x, y and z are indices, rising.
var (
	x = api.Index{7}
	y = api.Index{7, 15: 1}
	z = api.Index{200}
)

// noTicks gives numbers that are no ticks.
func noTicks() []int {
	return []int{-1, -2, -api.MaxTick, math.MinInt, api.MaxTick + 1, api.MaxTick + 2, 1 << 41, math.MaxInt}
}

func lease(who uint32, until int) api.Lease { return api.Lease{Who: who, Until: until} }

func have(i api.Index) api.Request { return api.Request{Kind: api.ReqHave, Index: i} }

func store(i api.Index, number int, b string, who uint32, until int) api.Request {
	return api.Request{Kind: api.ReqStore, Index: i, Number: number, Lease: lease(who, until), Bytes: []byte(b)}
}

func fetch(i api.Index, number, at, n int) api.Request {
	return api.Request{Kind: api.ReqFetch, Index: i, Number: number, At: at, Len: n}
}

func renew(i api.Index, who uint32, until int) api.Request {
	return api.Request{Kind: api.ReqRenew, Index: i, Lease: lease(who, until)}
}

func release(i api.Index, who uint32) api.Request {
	return api.Request{Kind: api.ReqRelease, Index: i, Lease: lease(who, 0)}
}

func numbers(l ...int) api.Reply { return api.Reply{Kind: api.RepNumbers, Numbers: l} }

func some(b string) api.Reply { return api.Reply{Kind: api.RepBytes, Bytes: []byte(b)} }

func only(k api.RepKind) api.Reply { return api.Reply{Kind: k} }

// begun gives a server without shares.
func begun(t *testing.T, room int) *server.Server {
	t.Helper()
	s, e := server.New(room)
	if s == nil || e != api.OK {
		t.Fatalf("New(%d): %v, %d", room, s, e)
	}
	return s
}

func loaded(t *testing.T, st api.Store) *server.Server {
	t.Helper()
	s, e := server.Load(st)
	if s == nil || e != api.OK {
		t.Fatalf("Load(%v): %v, %d", st, s, e)
	}
	return s
}

// share gives a share as State tells it.
func share(i api.Index, number int, b string, leases ...api.Lease) api.Kept {
	return api.Kept{Index: i, Number: number, Bytes: []byte(b), Leases: leases}
}

// example gives a server with the room 40, at the tick 3, and what it holds.
func example(t *testing.T) (*server.Server, api.Store) {
	t.Helper()
	s := begun(t, 40)
	for _, r := range []api.Request{
		store(z, 0, "zz", 5, 9),
		store(y, 3, "yyy", 2, 6),
		store(x, 12, "twelve", 1, 5),
		store(x, 3, "three", 4, 5),
		store(x, 3, "three", 2, 7),
		store(x, 0, "", 2, 4),
	} {
		wantDo(t, s, 3, r, only(api.RepStored))
	}
	return s, api.Store{Room: 40, Tick: 3, Kept: []api.Kept{
		share(x, 0, "", lease(2, 4)),
		share(x, 3, "three", lease(2, 7), lease(4, 5)),
		share(x, 12, "twelve", lease(1, 5)),
		share(y, 3, "yyy", lease(2, 6)),
		share(z, 0, "zz", lease(5, 9)),
	}}
}

func sameReply(a, b api.Reply) bool {
	return a.Kind == b.Kind && slices.Equal(a.Numbers, b.Numbers) && bytes.Equal(a.Bytes, b.Bytes)
}

func sameKept(a, b api.Kept) bool {
	return a.Index == b.Index && a.Number == b.Number && bytes.Equal(a.Bytes, b.Bytes) && slices.Equal(a.Leases, b.Leases)
}

func sameStore(a, b api.Store) bool {
	return a.Room == b.Room && a.Tick == b.Tick && slices.EqualFunc(a.Kept, b.Kept, sameKept)
}

func wantDo(t *testing.T, s *server.Server, tick int, r api.Request, want api.Reply) {
	t.Helper()
	if got, e := s.Do(tick, r); !sameReply(got, want) || e != api.OK {
		t.Errorf("Do(%d, %v): %v, %d instead of %v", tick, r, got, e, want)
	}
}

func wantNoDo(t *testing.T, s *server.Server, tick int, r api.Request, want api.Errno) {
	t.Helper()
	if got, e := s.Do(tick, r); !reflect.DeepEqual(got, api.Reply{}) || e != want {
		t.Errorf("Do(%d, %v): %v, %d instead of %d", tick, r, got, e, want)
	}
}

func wantTick(t *testing.T, s *server.Server, tick int, want api.Errno) {
	t.Helper()
	if e := s.Tick(tick); e != want {
		t.Errorf("Tick(%d): %d instead of %d", tick, e, want)
	}
}

// wantState holds what State and Used tell against what there should be.
func wantState(t *testing.T, s *server.Server, want api.Store) {
	t.Helper()
	used := 0
	for _, k := range want.Kept {
		used += len(k.Bytes)
	}
	if got := s.State(); !sameStore(got, want) || s.Used() != used {
		t.Errorf("State: %v\ninstead of %v\nUsed: %d instead of %d", got, want, s.Used(), used)
	}
}

// kept gives a store with some of its shares, at a tick.
func kept(st api.Store, tick int, shares ...api.Kept) api.Store {
	return api.Store{Room: st.Room, Tick: tick, Kept: shares}
}

func TestP19_1New(t *testing.T) {
	for _, room := range []int{0, 1, 10, 1 << 20, api.MaxRoom - 1, api.MaxRoom} {
		wantState(t, begun(t, room), api.Store{Room: room})
	}
	for _, room := range []int{-1, -2, math.MinInt, -api.MaxRoom, api.MaxRoom + 1, 1 << 31, 1 << 32, math.MaxInt} {
		if s, e := server.New(room); s != nil || e != api.ErrRoom {
			t.Errorf("New(%d): %v, %d", room, s, e)
		}
	}
	if api.ErrRoom != 190 || api.ErrTick != 191 || api.ErrStored != 192 || api.MaxRoom != 1<<30 || api.MaxLeases != 64 {
		t.Error("numbers of the chapter")
	}
}

func TestP19_1Apart(t *testing.T) {
	one, other := begun(t, 10), begun(t, 10)
	wantDo(t, one, 4, store(x, 3, "abcdef", 1, 5), only(api.RepStored))
	wantState(t, other, api.Store{Room: 10})
	wantDo(t, other, 0, have(x), numbers())
}

func TestP19_2Tick(t *testing.T) {
	s, st := example(t)
	k := st.Kept
	wantTick(t, s, 3, api.OK)
	wantState(t, s, st)
	wantTick(t, s, 4, api.OK) // a lease runs at its Until, too
	wantState(t, s, kept(st, 4, k...))
	wantTick(t, s, 5, api.OK)
	wantState(t, s, kept(st, 5, k[1:]...))
	wantTick(t, s, 6, api.OK)
	three := share(x, 3, "three", lease(2, 7))
	wantState(t, s, kept(st, 6, three, k[3], k[4]))
	wantTick(t, s, 6, api.OK)
	wantState(t, s, kept(st, 6, three, k[3], k[4]))
	wantTick(t, s, 7, api.OK)
	wantState(t, s, kept(st, 7, three, k[4]))
	wantTick(t, s, 9, api.OK)
	wantState(t, s, kept(st, 9, k[4]))
	wantTick(t, s, 10, api.OK)
	wantState(t, s, kept(st, 10))
	wantTick(t, s, api.MaxTick, api.OK)
	wantTick(t, s, api.MaxTick, api.OK)
	wantState(t, s, kept(st, api.MaxTick))
}

func TestP19_2NoTick(t *testing.T) {
	s, st := example(t)
	for _, tick := range append(noTicks(), 0, 1, 2) {
		wantTick(t, s, tick, api.ErrTick)
		wantState(t, s, st)
	}
	wantTick(t, s, api.MaxTick, api.OK)
	for _, tick := range append(noTicks(), 0, 3, api.MaxTick-1) {
		wantTick(t, s, tick, api.ErrTick)
		wantState(t, s, kept(st, api.MaxTick))
	}
}

func TestP19_2LeasesUpToTheLastTick(t *testing.T) {
	s := begun(t, 5)
	wantDo(t, s, 0, store(x, 1, "a", 1, api.MaxTick), only(api.RepStored))
	wantDo(t, s, 0, store(x, 2, "b", 1, api.MaxTick-1), only(api.RepStored))
	wantTick(t, s, api.MaxTick-1, api.OK)
	wantDo(t, s, api.MaxTick-1, have(x), numbers(1, 2))
	wantTick(t, s, api.MaxTick, api.OK)
	wantDo(t, s, api.MaxTick, have(x), numbers(1))
	wantDo(t, s, api.MaxTick, renew(x, 1, api.MaxTick), numbers(1))
	wantDo(t, s, api.MaxTick, renew(x, 1, api.MaxTick-1), only(api.RepRefused))
	wantDo(t, s, api.MaxTick, store(x, 3, "c", 1, api.MaxTick), only(api.RepStored))
	wantDo(t, s, api.MaxTick, have(x), numbers(1, 3))
}

func TestP19_4State(t *testing.T) {
	s, st := example(t)
	for range 3 { // whatever way a map is gone through
		wantState(t, s, st)
	}
	wantState(t, begun(t, 0), api.Store{})
}

// TestP19_4ByteByByte: indices that differ at any place, numbers of one and of more digits, leases over the whole of Who.
func TestP19_4ByteByByte(t *testing.T) {
	s := begun(t, 1000)
	var want []api.Kept
	for place := 15; place >= 0; place-- {
		for _, v := range []byte{1, 127, 128, 255} {
			i := api.Index{}
			i[place] = v
			for _, n := range []int{0, 2, 10, 127, 128, 254} {
				want = append(want, share(i, n, "b", lease(0, 1), lease(1<<31-1, 3), lease(1<<31, 2), lease(1<<32-1, 1)))
			}
		}
	}
	for i := range want {
		k := want[i*77%len(want)] // 77 and 384 have nothing in common
		for _, l := range []int{2, 0, 3, 1} {
			wantDo(t, s, 0, store(k.Index, k.Number, "b", k.Leases[l].Who, k.Leases[l].Until), only(api.RepStored))
		}
	}
	wantState(t, s, api.Store{Room: 1000, Kept: want})
}

func TestP19_6Spoil(t *testing.T) {
	s, st := example(t)
	for i, c := range []struct {
		index  api.Index
		number int
		b      string
		want   api.Errno
	}{
		{x, 3, "eerht", api.OK},
		{x, 3, "thre", api.ErrArg},
		{x, 3, "threes", api.ErrArg},
		{x, 3, "", api.ErrArg},
		{x, 0, "", api.OK},
		{x, 0, "a", api.ErrArg},
		{x, 1, "three", api.ErrArg},
		{x, 1, "", api.ErrArg},
		{y, 0, "", api.ErrArg},
		{api.Index{}, 3, "three", api.ErrArg},
		{x, -1, "", api.ErrArg},
		{x, 255, "", api.ErrArg},
		{x, 256, "", api.ErrArg},
		{x, 259, "three", api.ErrArg},
		{x, math.MinInt, "", api.ErrArg},
		{x, math.MaxInt, "", api.ErrArg},
		{x, 1<<32 + 3, "three", api.ErrArg},
		{z, 0, "\x00\xff", api.OK},
	} {
		if e := s.Spoil(c.index, c.number, []byte(c.b)); e != c.want {
			t.Errorf("%d: %d instead of %d", i, e, c.want)
		}
	}
	if e := s.Spoil(x, 0, nil); e != api.OK {
		t.Error(e)
	}
	st.Kept[1].Bytes = []byte("eerht")
	st.Kept[4].Bytes = []byte{0, 255}
	wantState(t, s, st)
	wantDo(t, s, 3, fetch(x, 3, 0, 5), some("eerht"))
	wantDo(t, s, 3, store(x, 3, "three", 2, 9), only(api.RepOther)) // the bytes that it had are others now
	wantDo(t, s, 3, store(x, 3, "eerht", 2, 6), only(api.RepStored))
	wantState(t, s, st)
	wantTick(t, s, 8, api.OK)
	if e := s.Spoil(x, 3, []byte("three")); e != api.ErrArg { // thrown away
		t.Error(e)
	}
}

// notMade gives servers that neither New nor Load made.
func notMade(t *testing.T) []*server.Server {
	full, _ := example(t)
	copied := *full
	return []*server.Server{nil, {}, new(server.Server), &copied}
}

func TestP19_7NotMade(t *testing.T) {
	for i, s := range notMade(t) {
		for range 2 {
			if s.Used() != 0 || !reflect.DeepEqual(s.State(), api.Store{}) {
				t.Error(s.Used(), s.State())
			}
			wantNumbers(t, s.Numbers(x))
			for _, n := range append(noTicks(), 0, 2, 3, 4, 10, api.MaxTick) { // ErrNil is the first of all
				wantTick(t, s, n, api.ErrNil)
				for _, r := range []api.Request{{}, have(x), store(x, 1, "a", 1, 9), fetch(x, 3, 0, 1), renew(x, 2, 9), release(x, 2), {Kind: 9}} {
					wantNoDo(t, s, n, r, api.ErrNil)
				}
				if e := s.Spoil(x, n, nil); e != api.ErrNil {
					t.Error(e)
				}
			}
			if e := s.Spoil(x, 3, []byte("eerht")); e != api.ErrNil {
				t.Error(e)
			}
		}
		if t.Failed() {
			t.Fatal(i)
		}
	}
}

func TestP19_7CopyChangesNothing(t *testing.T) {
	s, st := example(t)
	copied := *s
	copied.Tick(9)
	copied.Do(3, release(x, 2))
	copied.Do(9, store(x, 5, "a", 1, 9))
	copied.Spoil(x, 3, []byte("eerht"))
	wantState(t, s, st)
	wantDo(t, s, 3, have(x), numbers(0, 3, 12))
}

// TestExamples are the chapter's.
func TestExamples(t *testing.T) {
	s := begun(t, 10)
	wantDo(t, s, 0, store(x, 3, "abcdef", 1, 5), only(api.RepStored))
	wantDo(t, s, 0, have(x), numbers(3))
	wantDo(t, s, 0, store(x, 4, "12345", 1, 5), only(api.RepFull))
	wantDo(t, s, 0, store(x, 3, "ABCDEF", 1, 5), only(api.RepOther))
	wantDo(t, s, 0, store(x, 3, "abcdef", 2, 9), only(api.RepStored))
	wantDo(t, s, 0, store(x, 3, "abcdef", 1, 4), only(api.RepStored))
	wantState(t, s, api.Store{Room: 10, Kept: []api.Kept{share(x, 3, "abcdef", lease(1, 5), lease(2, 9))}})
	wantDo(t, s, 0, fetch(x, 3, 4, 2), some("ef"))
	wantDo(t, s, 0, fetch(x, 3, 4, 3), only(api.RepNone))
	wantDo(t, s, 0, fetch(x, 3, 0, 131073), only(api.RepRefused))

	wantTick(t, s, 6, api.OK)
	wantState(t, s, api.Store{Room: 10, Tick: 6, Kept: []api.Kept{share(x, 3, "abcdef", lease(2, 9))}})
	wantDo(t, s, 6, have(x), numbers(3))
	wantDo(t, s, 6, release(x, 1), numbers())
	wantDo(t, s, 6, release(x, 2), numbers(3))
	wantDo(t, s, 6, have(x), numbers())
	wantState(t, s, api.Store{Room: 10, Tick: 6})
	wantDo(t, s, 6, store(x, 3, "abcdef", 1, 5), only(api.RepRefused))
	wantNoDo(t, s, 5, have(x), api.ErrTick)
	if l, e := server.Load(api.Store{Room: 10, Kept: []api.Kept{share(x, 3, "abcdef")}}); l != nil || e != api.ErrStored {
		t.Error(l, e)
	}
}
