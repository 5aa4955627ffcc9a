package repair_test

import (
	"fmt"
	"math"
	"slices"
	"testing"

	"strongroom/api"
	"strongroom/repair"
)

// capOf gives a capability that may be, of nobody's file.
func capOf(k, n int, x byte) api.Verify {
	return api.Verify{Index: api.Index{x, 9}, Ueb: api.Digest{x}, K: k, N: n, Seg: 40 * k, Size: 100}
}

func try(number int, servers ...int) api.Try { return api.Try{Number: number, Servers: servers} }

func sameTries(a, b []api.Try) bool {
	return slices.EqualFunc(a, b, func(a, b api.Try) bool { return a.Number == b.Number && slices.Equal(a.Servers, b.Servers) })
}

func wantPlan(t *testing.T, v api.Verify, servers int, good, bad []api.Pair, want ...api.Try) {
	t.Helper()
	l, e := repair.Plan(v, servers, good, bad)
	if e != api.OK || !sameTries(l, want) {
		t.Errorf("Plan of %d servers, %v, %v: %v, %d, want %v", servers, good, bad, l, e, want)
	}
}

func wantNoPlan(t *testing.T, v api.Verify, servers int, good, bad []api.Pair, want api.Errno) {
	t.Helper()
	if l, e := repair.Plan(v, servers, good, bad); e != want || len(l) != 0 {
		t.Errorf("Plan of %+v, %d servers, %v, %v: %v, %d instead of %d", v, servers, good, bad, l, e, want)
	}
}

func TestP28_1Example1(t *testing.T) {
	for x := range byte(8) {
		v := capOf(1, 2, x)
		o := orderOf(v.Index, 2)
		wantPlan(t, v, 2, []api.Pair{on(0, 0)}, nil, try(1, o[1], o[0]))
		wantPlan(t, v, 2, nil, []api.Pair{on(o[0], 0)}, try(0, o[1]), try(1, o[1], o[0]))
		wantNoPlan(t, v, 2, []api.Pair{on(2, 0)}, nil, api.ErrArg)
	}
}

// TestP28_1Lacks: of which numbers good has a pair, on whichever server and how often, these are not tried.
func TestP28_1Lacks(t *testing.T) {
	v := capOf(2, 5, 1)
	o := orderOf(v.Index, 3)
	all := []api.Try{try(0, o...), try(1, o[1], o[2], o[0]), try(2, o[2], o[0], o[1]), try(3, o...), try(4, o[1], o[2], o[0])}
	wantPlan(t, v, 3, nil, nil, all...)
	wantPlan(t, v, 3, []api.Pair{}, []api.Pair{}, all...)
	for s := range 3 {
		for number := range 5 {
			wantPlan(t, v, 3, []api.Pair{on(s, number)}, nil, slices.Delete(slices.Clone(all), number, number+1)...)
		}
	}
	wantPlan(t, v, 3, []api.Pair{on(2, 3), on(0, 1), on(1, 3), on(0, 3), on(0, 3)}, nil, all[0], all[2], all[4])
	wantPlan(t, v, 3, []api.Pair{on(2, 4), on(0, 1), on(1, 3), on(0, 0), on(0, 2)}, nil)
}

// TestP28_1Bad: who has a bad pair of a number is left out of its try, and of no other; where all have one the try has nobody.
func TestP28_1Bad(t *testing.T) {
	v := capOf(2, 3, 2)
	o := orderOf(v.Index, 4)
	t0, t1, t2 := try(0, o...), try(1, o[1], o[2], o[3], o[0]), try(2, o[2], o[3], o[0], o[1])
	wantPlan(t, v, 4, nil, []api.Pair{on(o[2], 1)}, t0, try(1, o[1], o[3], o[0]), t2)
	wantPlan(t, v, 4, nil, []api.Pair{on(o[2], 1), on(o[2], 1), on(o[1], 1), on(o[3], 2)}, t0, try(1, o[3], o[0]), try(2, o[2], o[0], o[1]))
	wantPlan(t, v, 4, []api.Pair{on(0, 1)}, []api.Pair{on(0, 1), on(o[1], 1), on(o[0], 0)}, try(0, o[1:]...), t2)
	wantPlan(t, v, 4, nil, []api.Pair{on(3, 0), on(2, 0), on(0, 0), on(1, 0)}, try(0), t1, t2)
}

// TestP28_1NoServers: there are numbers all the same, but nobody to try them on.
func TestP28_1NoServers(t *testing.T) {
	v := capOf(1, 3, 3)
	wantPlan(t, v, 0, nil, nil, try(0), try(1), try(2))
	wantNoPlan(t, v, 0, []api.Pair{on(0, 0)}, nil, api.ErrArg)
	wantNoPlan(t, v, 0, nil, []api.Pair{on(0, 0)}, api.ErrArg)
}

// TestP28_1Edges: the last server and the last number that may be, and the ones behind them.
func TestP28_1Edges(t *testing.T) {
	for _, v := range []api.Verify{capOf(1, 1, 4), capOf(3, 7, 5), capOf(1, 255, 6), capOf(255, 255, 7)} {
		for _, servers := range []int{1, 2, 31, 32} {
			good, bad := []api.Pair{on(servers-1, v.N-1)}, []api.Pair{on(servers-1, 0), on(0, v.N-1), on(0, v.N/2)}
			wantPlan(t, v, servers, good, bad, planned(v, servers, good, bad)...)
			wantPlan(t, v, servers, bad, good, planned(v, servers, bad, good)...)
			for _, far := range append(odd(), servers) {
				wantNoPlan(t, v, servers, append(good, on(far, 0)), bad, api.ErrArg)
				wantNoPlan(t, v, servers, good, append(bad, on(far, 0)), api.ErrArg)
			}
			for _, far := range append(odd(), v.N, 255) {
				wantNoPlan(t, v, servers, append(good, on(0, far)), bad, api.ErrArg)
				wantNoPlan(t, v, servers, good, append(bad, on(0, far)), api.ErrArg)
			}
		}
		for _, servers := range append(odd(), 33, 34, 256, math.MaxInt32+1) {
			wantNoPlan(t, v, servers, nil, nil, api.ErrArg)
			wantNoPlan(t, v, servers, []api.Pair{on(0, 0)}, []api.Pair{on(32, 0)}, api.ErrArg)
		}
	}
}

// TestP28_1Order: a capability that may not be is told ahead of all else.
func TestP28_1Order(t *testing.T) {
	for _, v := range badCaps(capOf(2, 3, 8)) {
		wantNoPlan(t, v, 2, nil, nil, api.ErrCap)
		wantNoPlan(t, v, -1, nil, nil, api.ErrCap)
		wantNoPlan(t, v, 33, []api.Pair{on(40, 0)}, []api.Pair{on(0, 300)}, api.ErrCap)
	}
}

// TestP28_1Model: any pairs, in any order.
func TestP28_1Model(t *testing.T) {
	for seed := range uint64(2000) {
		d := drawn(seed)
		n := 1 + d.IntN(12)
		v := capOf(1+d.IntN(n), n, byte(seed))
		servers := d.IntN(api.MaxServers + 1)
		pairs := func(most int) []api.Pair {
			var l []api.Pair
			for range d.IntN(most) {
				if servers > 0 {
					l = append(l, on(d.IntN(servers), d.IntN(n)))
				}
			}
			return l
		}
		good, bad := pairs(n+1), pairs(servers*n/2+1)
		wantPlan(t, v, servers, good, bad, planned(v, servers, good, bad)...)
		if t.Failed() {
			t.Fatal(fmt.Sprint("seed ", seed))
		}
	}
}
