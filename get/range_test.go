package get_test

import (
	"bytes"
	"fmt"
	"math"
	"testing"

	"strongroom/api"
	"strongroom/get"
	"strongroom/post"
)

func wantRange(t *testing.T, what string, n *post.Net, c api.Read, at, size int, want api.Got, wanted api.Errno) {
	t.Helper()
	g, e := get.Range(n, c, at, size)
	wantGot(t, fmt.Sprint(what, ", ", at, ", ", size), g, e, want, wanted)
}

// TestP26_2Example5: nothing, and one byte behind the end.
func TestP26_2Example5(t *testing.T) {
	w := example(t, 100)
	n := exampleNet(t, w)
	wantRange(t, "nothing", n, w.cap, 0, 0, api.Got{}, api.OK)
	wantRange(t, "behind the end", n, w.cap, 100, 1, api.Got{}, api.ErrRange)
	wantUntouched(t, n, 0, 0)
}

// TestP26_2All: all stretches of files, each by as few requests as it takes, and just of the segments that it touches.
func TestP26_2All(t *testing.T) {
	for i, s := range []four{{1, 1, 33, 33}, {2, 3, 10, 37}, {3, 5, 12, 45}, {3, 3, 100, 34}, {1, 2, 1, 33}} {
		w := truthOf(t, filled(s[3], i), params(s[0], s[1], s[2]))
		n := begun(t, holding(w.index, w.shares, spread(s[1], 2)...))
		for at := range s[3] + 1 {
			for size := range s[3] - at + 1 {
				if size == 0 {
					from := n.Made()
					wantRange(t, fmt.Sprint(s), n, w.cap, at, 0, api.Got{}, api.OK)
					if n.Made() != from {
						t.Errorf("%v, %d, nothing: %d calls", s, at, n.Made()-from)
					}
					continue
				}
				first, last := w.touched(at, size)
				wantRange(t, fmt.Sprint(s), n, w.cap, at, size, w.stretch(at, size, 2+s[0]*(2+last-first)), api.OK)
			}
		}
	}
}

// TestP26_2Calls: what is asked for a stretch within two of four segments.
func TestP26_2Calls(t *testing.T) {
	w := example(t, 350)
	h := have(w.index)
	n := exampleNet(t, w, []api.Fate{honest(2), honest(1), honest(1), lose()})
	n.Wait(5)
	wantRange(t, "two segments", n, w.cap, 199, 2, w.stretch(199, 2, 11), api.OK)
	wantSent(t, n, 0, call{5, 2, h}, call{5, 0, h}, call{5, 1, h}, call{7, 2, w.frontFetch(0)}, call{7, 0, w.frontFetch(1)},
		call{8, 2, w.blockFetch(0, 1)}, call{8, 0, w.blockFetch(1, 1)}, call{9, 2, w.blockFetch(0, 2)}, call{9, 0, w.blockFetch(1, 2)},
		call{19, 1, w.frontFetch(2)}, call{20, 1, w.blockFetch(2, 2)})
}

func TestP26_2NoNet(t *testing.T) {
	w := example(t, 100)
	for _, n := range noNets(t) {
		wantRange(t, "no net", n, w.cap, 10, 10, api.Got{}, api.ErrNil)
		wantRange(t, "no net, nothing", n, w.cap, 0, 0, api.Got{}, api.ErrNil)
		wantRange(t, "no net, no stretch", n, w.cap, -1, -1, api.Got{}, api.ErrNil)
		wantRange(t, "no net, no capability", n, api.Read{}, -1, -1, api.Got{}, api.ErrNil)
	}
}

// TestP26_2NoCap: told ahead of a stretch that may not be; and of no bytes, too.
func TestP26_2NoCap(t *testing.T) {
	w := example(t, 100)
	n := exampleNet(t, w)
	n.Wait(3)
	for _, c := range badCaps(w.cap) {
		for _, x := range [][2]int{{0, 1}, {0, 0}, {-1, 1}, {0, -1}, {c.Size, 1}, {math.MaxInt, math.MaxInt}} {
			wantRange(t, fmt.Sprintf("%+v", c), n, c, x[0], x[1], api.Got{}, api.ErrCap)
		}
	}
	wantUntouched(t, n, 3, 0)
}

func TestP26_2NoStretch(t *testing.T) {
	w := example(t, 100)
	n := exampleNet(t, w)
	n.Wait(3)
	for _, x := range [][2]int{{-1, 0}, {-1, 1}, {-1, 2}, {-100, 100}, {0, -1}, {1, -1}, {100, -1}, {0, 101}, {1, 100}, {99, 2}, {100, 1}, {101, 0}, {101, -1}, {50, 51}, {math.MaxInt, 0}, {math.MaxInt, 1}, {1, math.MaxInt}, {math.MaxInt, math.MaxInt}, {math.MinInt, math.MinInt}, {math.MinInt, math.MaxInt}, {math.MaxInt, math.MinInt}, {math.MinInt, 1}, {1, math.MinInt}, {1 << 32, 10}, {10, 1 << 32}} {
		wantRange(t, "no stretch", n, w.cap, x[0], x[1], api.Got{}, api.ErrRange)
	}
	wantUntouched(t, n, 3, 0)
	for _, x := range [][2]int{{0, 100}, {99, 1}, {100, 0}, {0, 1}, {50, 50}} {
		want := w.stretch(x[0], x[1], 7)
		wantRange(t, "up to the end", n, w.cap, x[0], x[1], want, api.OK)
	}
}

// TestP26_2TooFew: of a stretch, too, no more is told than how many calls were made.
func TestP26_2TooFew(t *testing.T) {
	w := example(t, 350)
	n := begun(t, holding(w.index, w.shares, []int{1}, []int{1}, []int{1}))
	wantRange(t, "one number", n, w.cap, 210, 5, asked(4), api.ErrFew)
	wantRange(t, "no servers", begun(t, nil), w.cap, 210, 5, api.Got{}, api.ErrFew)
	n = begun(t, holding(w.index, w.shares, []int{1}, nil, []int{0}), []api.Fate{honest(1), honest(1), honest(1), drop()})
	wantRange(t, "nobody is left", n, w.cap, 150, 100, asked(9), api.ErrFew)
	// What nobody asks for is in nobody's way.
	n = begun(t, holding(w.index, w.shares, []int{1}, nil, []int{0}), []api.Fate{honest(1), honest(1), honest(1), drop()})
	wantRange(t, "one segment", n, w.cap, 150, 50, w.stretch(150, 50, 7), api.OK)
}

// TestP26_8Stretch: a stretch is the stretch of the whole, by no more requests than the segments that it touches ask for, whatever the shares are like.
func TestP26_8Stretch(t *testing.T) {
	both := 0
	for seed := range uint64(150) {
		d := drawn(seed)
		w := d.file(t)
		stores := d.stores(w)
		whole, e := get.Get(begun(t, stores), w.cap)
		for range 5 {
			at := d.IntN(w.four[3])
			size := 1 + d.IntN(w.four[3]-at)
			n := begun(t, stores)
			part, g := get.Range(n, w.cap, at, size)
			first, last := w.touched(at, size)
			if most := len(stores) + len(stores)*w.four[1]*(2+last-first); part.Requests > most || part.Requests != n.Made() {
				t.Fatalf("seed %d: %d requests, %d calls, at most %d", seed, part.Requests, n.Made(), most)
			}
			if e != api.OK || g != api.OK {
				continue
			}
			both++
			if part.First != first || len(part.Segs) != last-first+1 || !bytes.Equal(part.File, whole.File[at:at+size]) || !bytes.Equal(part.Ueb, whole.Ueb) {
				t.Fatalf("seed %d, %d, %d: %s of %s", seed, at, size, short(part), short(whole))
			}
			for i, segment := range part.Segs {
				if !bytes.Equal(segment, whole.Segs[first+i]) {
					t.Fatalf("seed %d, %d, %d: segment %d", seed, at, size, first+i)
				}
			}
		}
	}
	if both < 200 {
		t.Errorf("%d stretches alone", both)
	}
}

// TestP26_8Whole: the stretch that is all of the file is what Get brings, all of it.
func TestP26_8Whole(t *testing.T) {
	for seed := range uint64(100) {
		d := drawn(seed)
		w := d.file(t)
		stores := d.stores(w)
		fates := d.fates(len(stores), w)
		whole, e := get.Get(begun(t, stores, fates...), w.cap)
		wantRange(t, fmt.Sprint("seed ", seed), begun(t, stores, fates...), w.cap, 0, w.four[3], whole, e)
	}
}

// TestP26_8Most: there are nets of which a stretch asks all that it may.
func TestP26_8Most(t *testing.T) {
	for _, s := range []four{{1, 1, 40, 100}, {3, 3, 12, 100}, {7, 7, 14, 45}} {
		w := truthOf(t, filled(s[3], 1), params(s[0], s[1], s[2]))
		n := begun(t, holding(w.index, w.shares, spread(s[1], 1)...))
		for j := range w.four.segs() {
			wantRange(t, fmt.Sprint(s), n, w.cap, 0, j*s[2]+1, w.stretch(0, j*s[2]+1, 1+s[1]*(2+j)), api.OK)
		}
	}
}
