package check_test

import (
	"fmt"
	"slices"
	"testing"

	"strongroom/api"
	"strongroom/check"
)

func wantTell(t *testing.T, v api.Verify, good, bad []api.Pair, silent []int, want api.Checked, wanted api.Errno) {
	t.Helper()
	c, e := check.Tell(v, good, bad, silent)
	wantChecked(t, fmt.Sprintf("Tell of %+v, %v, %v, %v", v, good, bad, silent), c, e, want, wanted)
}

// capOf gives a capability of K and N.
func capOf(k, n int) api.Verify { return api.Verify{K: k, N: n, Seg: 40 * k, Size: 100} }

func TestP27_1Examples(t *testing.T) {
	v := capOf(1, 2)
	both := []api.Pair{on(0, 0), on(1, 0)}
	wantTell(t, v, both, nil, nil, api.Checked{Good: both, Spread: api.Spread{Servers: 2, Numbers: 1, Happy: 1}, Enough: true}, api.OK)
	wantTell(t, v, []api.Pair{on(32, 0)}, nil, nil, api.Checked{}, api.ErrPairs)
	v.K, v.Seg = 3, 64
	wantTell(t, v, nil, nil, nil, api.Checked{}, api.ErrCap)
}

// TestP27_1Refused: pairs that happy's Look refuses are refused where they are said to be good, and nowhere else; ahead of them a capability that may not be.
func TestP27_1Refused(t *testing.T) {
	v := capOf(2, 3)
	for _, p := range []api.Pair{on(-1, 0), on(32, 0), on(0, -1), on(0, 255), on(33, 256), on(1<<32, 0), on(0, 1<<32)} {
		l := []api.Pair{on(0, 0), p, on(1, 1)}
		wantTell(t, v, l, nil, nil, api.Checked{}, api.ErrPairs)
		wantTell(t, v, l, []api.Pair{on(1, 2)}, []int{4}, api.Checked{}, api.ErrPairs)
		wantTell(t, v, nil, l, nil, api.Checked{Bad: l}, api.OK)
		for _, bad := range badCaps(v) {
			wantTell(t, bad, l, nil, nil, api.Checked{}, api.ErrCap)
		}
	}
	for _, bad := range badCaps(v) {
		wantTell(t, bad, []api.Pair{on(0, 0)}, []api.Pair{on(0, 1)}, []int{1}, api.Checked{}, api.ErrCap)
		wantTell(t, bad, nil, nil, nil, api.Checked{}, api.ErrCap)
	}
	many := make([]api.Pair, api.MaxPairs+1)
	wantTell(t, v, many, nil, nil, api.Checked{}, api.ErrPairs)
	wantTell(t, v, many[1:], many, nil, api.Checked{Good: many[1:], Bad: many, Spread: api.Spread{Servers: 1, Numbers: 1, Happy: 1}}, api.OK)
}

// TestP27_1AsHandedIn: what is handed in is told as it is, in its order, with what stands in it twice or in two lists.
func TestP27_1AsHandedIn(t *testing.T) {
	v := capOf(2, 3)
	good := []api.Pair{on(3, 2), on(3, 0), on(1, 2), on(3, 2), on(0, 0)}
	bad := []api.Pair{on(31, 7), on(3, 2), on(-5, 900), on(0, 0), on(0, 0)}
	silent := []int{7, 3, -1, 3, 100, 0}
	wantTell(t, v, good, bad, silent, api.Checked{Good: good, Bad: bad, Silent: silent, Spread: api.Spread{Servers: 3, Numbers: 2, Happy: 2}, Enough: true}, api.OK)
	wantTell(t, v, nil, bad, silent, api.Checked{Bad: bad, Silent: silent}, api.OK)
	wantTell(t, v, nil, nil, nil, api.Checked{}, api.OK)
	wantTell(t, v, []api.Pair{}, []api.Pair{}, []int{}, api.Checked{}, api.OK)
}

// TestP27_1Enough: it is numbers that count, not pairs and not servers: K of them are enough, N are all, and more than N are not N.
func TestP27_1Enough(t *testing.T) {
	for _, v := range []api.Verify{capOf(1, 1), capOf(1, 2), capOf(2, 2), capOf(2, 5), capOf(4, 5), capOf(5, 5), {K: 3, N: 255, Seg: 66, Size: 1000}, {K: 255, N: 255, Seg: 255, Size: 300}} {
		for numbers := range min(v.N+3, api.MaxN+1) {
			for _, servers := range []int{1, 2, 7, 32} {
				var good []api.Pair
				for i := range max(numbers, 1) * servers {
					if numbers > 0 {
						good = append(good, on(i%servers, i/servers))
					}
				}
				c, e := check.Tell(v, good, nil, nil)
				if e != api.OK || c.Spread.Numbers != numbers || c.Enough != (numbers >= v.K) || c.All != (numbers == v.N) {
					t.Errorf("%d of %d, %d numbers on %d servers: %v, %v, %v, %d", v.K, v.N, numbers, servers, c.Spread, c.Enough, c.All, e)
				}
			}
		}
	}
}

// TestP27_1Model: any lists come to what the words say.
func TestP27_1Model(t *testing.T) {
	for seed := range uint64(2000) {
		d := drawn(seed)
		s := d.shape()
		v := api.Verify{K: s[0], N: s[1], Seg: s[2] + (s[0]-s[2]%s[0])%s[0], Size: s[3]}
		draw := func() []api.Pair {
			var l []api.Pair
			for range d.IntN(12) {
				l = append(l, on(d.IntN(6), d.IntN(8)))
			}
			return l
		}
		good, bad := draw(), draw()
		silent := d.Perm(9)[:d.IntN(9)]
		wantTell(t, v, good, bad, silent, found(v, good, bad, silent...), api.OK)
	}
}

// TestP27_1Fours: of the capability K, N, Seg and Size are looked at alone.
func TestP27_1Fours(t *testing.T) {
	v := capOf(2, 3)
	good := []api.Pair{on(0, 0), on(1, 2)}
	want := found(v, good, nil)
	for i := range 4 {
		v.Index[i], v.Ueb[31-i] = byte(i), 9
		wantTell(t, v, good, nil, nil, want, api.OK)
	}
	if !slices.Equal(good, []api.Pair{on(0, 0), on(1, 2)}) {
		t.Error("the pairs were changed")
	}
}
