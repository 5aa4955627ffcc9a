package put_test

import (
	"slices"
	"testing"

	"strongroom/api"
	"strongroom/put"
	"strongroom/ring"
)

func sameTry(a, b api.Try) bool { return a.Number == b.Number && slices.Equal(a.Servers, b.Servers) }

func wantPlan(t *testing.T, numbers, servers int, want ...api.Try) {
	t.Helper()
	if l, e := put.Plan(x, numbers, servers); e != api.OK || !slices.EqualFunc(l, want, sameTry) {
		t.Errorf("Plan(%d, %d): %v, %d, want %v", numbers, servers, l, e, want)
	}
}

// TestP24_1Examples goes through the chapter's example 1.
func TestP24_1Examples(t *testing.T) {
	o := order(t, x, 3)
	wantPlan(t, 4, 3,
		api.Try{Number: 0, Servers: []int{o[0], o[1], o[2]}},
		api.Try{Number: 1, Servers: []int{o[1], o[2], o[0]}},
		api.Try{Number: 2, Servers: []int{o[2], o[0], o[1]}},
		api.Try{Number: 3, Servers: []int{o[0], o[1], o[2]}})
	wantPlan(t, 1, 0, api.Try{Number: 0})
	if l, e := put.Plan(x, 256, 3); e != api.ErrArg || len(l) != 0 {
		t.Errorf("%v, %d", l, e)
	}
}

func TestP24_1Edges(t *testing.T) {
	wantPlan(t, 0, 0)
	wantPlan(t, 0, 32)
	wantPlan(t, 2, 1, api.Try{Number: 0, Servers: []int{0}}, api.Try{Number: 1, Servers: []int{0}})
	wantPlan(t, 3, 0, api.Try{Number: 0}, api.Try{Number: 1}, api.Try{Number: 2})
}

// TestP24_1All holds each place of all plans against the rank that its server must have.
func TestP24_1All(t *testing.T) {
	for _, i := range []api.Index{x, y, {}, {255, 255}, {15: 9}} {
		for servers := range api.MaxServers + 1 {
			ranks := make([]int, servers)
			for s := range servers {
				ranks[s], _ = ring.Rank(i, servers, s)
			}
			for _, numbers := range []int{1, 2, 31, 32, 33, 254, 255} {
				wantRanks(t, i, numbers, ranks)
			}
		}
	}
}

// wantRanks holds a plan against the ranks of the servers.
func wantRanks(t *testing.T, i api.Index, numbers int, ranks []int) {
	t.Helper()
	l, e := put.Plan(i, numbers, len(ranks))
	if e != api.OK || len(l) != numbers {
		t.Fatalf("Plan(%d, %d): %d tries, %d", numbers, len(ranks), len(l), e)
	}
	for number, try := range l {
		if try.Number != number || len(try.Servers) != len(ranks) {
			t.Fatalf("Plan(%d, %d), number %d: %v", numbers, len(ranks), number, try)
		}
		for j, s := range try.Servers {
			if ranks[s] != (number+j)%len(ranks) {
				t.Fatalf("Plan(%d, %d), number %d: server %d in the place %d", numbers, len(ranks), number, s, j)
			}
		}
	}
}

func TestP24_1Refused(t *testing.T) {
	none := func(numbers, servers int) {
		if l, e := put.Plan(x, numbers, servers); e != api.ErrArg || len(l) != 0 {
			t.Errorf("Plan(%d, %d): %v, %d", numbers, servers, l, e)
		}
	}
	for _, bad := range append(odd(), 256, 257, 512) {
		none(bad, 3)
		none(bad, 0)
		none(bad, bad)
	}
	for _, bad := range append(odd(), 33, 34, 64, 256, 259) {
		none(4, bad)
		none(0, bad)
		none(255, bad)
	}
}

// TestR3Plan: no two lists of a plan have a part in common.
func TestR3Plan(t *testing.T) {
	l, _ := put.Plan(x, 40, 7)
	want, _ := put.Plan(x, 40, 7)
	for i := range l {
		if !sameTry(l[i], want[i]) {
			t.Fatalf("%d: %v, want %v", i, l[i], want[i])
		}
		all := l[i].Servers[:cap(l[i].Servers)]
		for j := range all {
			all[j] = 99
		}
	}
	if again, _ := put.Plan(x, 40, 7); !slices.EqualFunc(again, want, sameTry) {
		t.Errorf("%v, want %v", again, want)
	}
}
