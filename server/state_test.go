package server_test

import (
	"math"
	"testing"

	"strongroom/api"
	"strongroom/server"
)

// many gives leases of 0, 1, .., all up to a tick.
func many(n, until int) []api.Lease {
	var l []api.Lease
	for i := range n {
		l = append(l, lease(uint32(i), until))
	}
	return l
}

func TestP19_5Load(t *testing.T) {
	_, st := example(t)
	for i, st := range []api.Store{
		{},
		st,
		{Room: api.MaxRoom, Tick: api.MaxTick},
		{Room: 14, Kept: []api.Kept{share(x, 0, "seven b", many(1, 0)...), share(x, 254, "seven b", many(64, api.MaxTick)...)}},
		{Room: 0, Tick: 5, Kept: []api.Kept{share(x, 0, "", lease(math.MaxUint32, 5))}},
		{Room: 1, Tick: api.MaxTick, Kept: []api.Kept{share(x, 0, "a", lease(0, api.MaxTick), lease(math.MaxUint32, api.MaxTick))}},
		{Room: 9, Kept: []api.Kept{share(x, 254, "a", lease(1, 0)), share(y, 0, "a", lease(1, 0)), share(z, 0, "a", lease(1, 0))}},
	} {
		s := loaded(t, st)
		wantState(t, s, st)
		wantTick(t, s, st.Tick, api.OK)
		wantTick(t, s, st.Tick-1, api.ErrTick)
		wantState(t, s, st)
		if t.Failed() {
			t.Fatal(i)
		}
	}
}

// TestP19_5LoadNothing: lists without elements and nil are one thing.
func TestP19_5LoadNothing(t *testing.T) {
	wantState(t, loaded(t, api.Store{Kept: []api.Kept{}}), api.Store{})
	k := api.Kept{Number: 1, Leases: many(1, 1)}
	s := loaded(t, api.Store{Kept: []api.Kept{k}})
	wantDo(t, s, 0, store(api.Index{}, 1, "", 0, 1), only(api.RepStored))
	k.Bytes = []byte{}
	wantState(t, s, api.Store{Kept: []api.Kept{k}})
}

func TestP19_5NoStore(t *testing.T) {
	_, st := example(t)
	with := func(turn func(st *api.Store)) api.Store {
		_, st := example(t)
		turn(&st)
		return st
	}
	number := func(n int) api.Store { return with(func(st *api.Store) { st.Kept[4].Number = n }) }
	leases := func(l ...api.Lease) api.Store { return with(func(st *api.Store) { st.Kept[1].Leases = l }) }
	stores := []api.Store{
		with(func(st *api.Store) { st.Room = 15 }), // 16 bytes are used
		with(func(st *api.Store) { st.Room = 0 }),
		with(func(st *api.Store) { st.Room = -1 }),
		with(func(st *api.Store) { st.Room = math.MinInt }),
		with(func(st *api.Store) { st.Room = api.MaxRoom + 1 }),
		with(func(st *api.Store) { st.Room = math.MaxInt }),
		with(func(st *api.Store) { st.Tick = 5 }), // a lease does not run at it
		with(func(st *api.Store) { st.Tick = -1 }),
		with(func(st *api.Store) { st.Kept[0], st.Kept[1] = st.Kept[1], st.Kept[0] }),
		with(func(st *api.Store) { st.Kept[2], st.Kept[3] = st.Kept[3], st.Kept[2] }),
		with(func(st *api.Store) { st.Kept[3], st.Kept[4] = st.Kept[4], st.Kept[3] }),
		with(func(st *api.Store) { st.Kept[1] = st.Kept[0] }),
		with(func(st *api.Store) { st.Kept[1].Number = 0 }), // the same number twice, other bytes
		with(func(st *api.Store) { st.Kept = append(st.Kept, st.Kept[4]) }),
		with(func(st *api.Store) { st.Kept = append(st.Kept, st.Kept[0]) }),
		with(func(st *api.Store) { st.Kept = append(st.Kept, api.Kept{}) }),
		number(-1), number(255), number(256), number(math.MinInt), number(math.MaxInt), number(1 << 32),
		leases(), leases(many(65, 9)...), leases(lease(2, 7), lease(2, 7)), leases(lease(2, 7), lease(2, 8)),
		leases(lease(4, 5), lease(2, 7)), leases(lease(1, 5), lease(3, 5), lease(2, 7)),
		leases(lease(2, 2)), leases(lease(2, 7), lease(4, 2)), leases(lease(2, 2), lease(4, 5)),
		leases(lease(2, -1)), leases(lease(2, math.MinInt)), leases(lease(2, 7), lease(4, api.MaxTick+1)), leases(lease(2, math.MaxInt)),
		{Kept: []api.Kept{{}}},
		{Room: -1}, {Room: api.MaxRoom + 1},
	}
	for _, tick := range noTicks() {
		stores = append(stores, api.Store{Room: 9, Tick: tick}, api.Store{Room: 9, Tick: tick, Kept: []api.Kept{share(x, 1, "a", lease(1, tick))}})
	}
	for i, st := range stores {
		if s, e := server.Load(st); s != nil || e != api.ErrStored {
			t.Errorf("%d: %v, %d", i, s, e)
		}
	}
	wantState(t, loaded(t, with(func(st *api.Store) { st.Room = 16 })), with(func(st *api.Store) { st.Room = 16 }))
	wantState(t, loaded(t, with(func(st *api.Store) { st.Tick = 4 })), kept(st, 4, st.Kept...))
	wantState(t, loaded(t, number(254)), number(254))
	wantState(t, loaded(t, leases(many(64, 3)...)), leases(many(64, 3)...))
}

// TestP19_5TooBig: a share of more bytes than may be, and shares that are together more than the greatest room.
func TestP19_5TooBig(t *testing.T) {
	b := make([]byte, api.MaxShare+1)
	st := api.Store{Room: api.MaxRoom, Kept: []api.Kept{{Index: x, Bytes: b, Leases: many(1, 0)}}}
	if s, e := server.Load(st); s != nil || e != api.ErrStored {
		t.Error(s != nil, e)
	}
	st.Kept[0].Bytes = b[1:]
	if s, e := server.Load(st); s.Used() != api.MaxShare || e != api.OK {
		t.Error(s.Used(), e)
	}
	for n := 1; n <= 32; n++ { // 2^25 bytes each, one list for all: one more than go into 2^30
		st.Kept = append(st.Kept, api.Kept{Index: x, Number: n, Bytes: b[1:], Leases: many(1, 0)})
	}
	if s, e := server.Load(st); s != nil || e != api.ErrStored {
		t.Error(s != nil, e)
	}
}

func TestP19_5Apart(t *testing.T) {
	_, st := example(t)
	one, other := loaded(t, st), loaded(t, st)
	wantDo(t, one, 3, release(x, 2), numbers(0, 3))
	if e := one.Spoil(z, 0, []byte("ZZ")); e != api.OK {
		t.Error(e)
	}
	wantTick(t, one, 9, api.OK)
	wantState(t, other, st)
}
