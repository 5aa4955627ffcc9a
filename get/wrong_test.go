package get_test

import (
	"fmt"
	"slices"
	"testing"

	"strongroom/api"
	"strongroom/get"
)

// mixed forges a capability: the shares of some numbers are those of a second file, the segments' digests those of the first one, but for the segments that are named, of which they are the second one's.
func mixed(t *testing.T, s four, seed int, second []int, segments ...int) truth {
	t.Helper()
	a, b := truthOf(t, filled(s[3], 2*seed), params(s[0], s[1], s[2])), truthOf(t, filled(s[3], 2*seed+1), params(s[0], s[1], s[2]))
	blocks := a.blocksOf()
	for _, i := range second {
		blocks[i] = b.blocksOf()[i]
	}
	segs := slices.Clone(a.segs)
	for _, j := range segments {
		segs[j] = b.segs[j]
	}
	return forged(s, a.cap.Key, blocks, segs)
}

// TestForged: what is forged of a file's own blocks and digests is the file's capability and shares.
func TestForged(t *testing.T) {
	for i, s := range shapes() {
		w := truthOf(t, filled(s[3], i), params(s[0], s[1], s[2]))
		f := forged(w.four, w.cap.Key, w.blocksOf(), w.segs)
		if f.cap != w.cap || f.index != w.index || f.ueb != w.ueb || len(f.shares) != s[1] {
			t.Errorf("%v: %+v, want %+v", s, f.cap, w.cap)
		}
		for number, b := range f.shares {
			if !slices.Equal(b, w.shares[number]) {
				t.Errorf("%v: share %d", s, number)
			}
		}
	}
}

// TestP26_1Wrong: shares that validate, but come to no segment of which the Ueb speaks, end the read, whoever else could be asked.
func TestP26_1Wrong(t *testing.T) {
	s := four{2, 4, 40, 110}
	w := mixed(t, s, 1, []int{1})
	for _, x := range []struct {
		has   []int
		calls int
		e     api.Errno
	}{
		{[]int{0, 1}, 1 + 2 + 2, api.ErrWrong},
		{[]int{0, 1, 2, 3}, 1 + 2 + 2, api.ErrWrong},
		{[]int{1, 2, 3}, 1 + 2 + 2, api.ErrWrong},
		{[]int{0, 2, 3}, 1 + 2 + 6, api.OK},
		{[]int{1}, 1 + 1, api.ErrFew},
	} {
		n := begun(t, holding(w.index, w.shares, x.has))
		want := asked(x.calls)
		if x.e == api.OK {
			want = w.got(0, [][]byte{w.segment(t, []int{0, 2}, 0), w.segment(t, []int{0, 2}, 1), w.segment(t, []int{0, 2}, 2)}, x.calls)
		}
		wantGet(t, fmt.Sprint(x.has), n, w.cap, want, x.e)
		wantUntouched(t, n, n.Tick(), x.calls)
	}
	// One that falls out of use in time does no harm.
	n := begun(t, holding(w.index, w.shares, []int{0, 1, 2}), []api.Fate{honest(1), honest(1), honest(1), honest(1), drop()})
	if wantGet(t, "it falls", n, w.cap, w.got(0, [][]byte{w.segment(t, []int{0, 2}, 0), w.segment(t, []int{0, 2}, 1), w.segment(t, []int{0, 2}, 2)}, 11), api.OK); n.Made() != 11 {
		t.Errorf("%d calls", n.Made())
	}
}

// TestP26_1WrongLater: segments are looked at one by one, as they come.
func TestP26_1WrongLater(t *testing.T) {
	s := four{1, 2, 40, 200}
	for j := range 5 {
		w := mixed(t, s, 2, nil, j)
		n := begun(t, holding(w.index, w.shares, []int{0}, []int{1}))
		wantGet(t, fmt.Sprint("segment ", j), n, w.cap, asked(2+1+j+1), api.ErrWrong)
		for at := range 200 {
			calls, e := 2+1+1, api.ErrWrong
			want := asked(calls)
			if at/40 != j {
				e = api.OK
				want = w.got(at/40, [][]byte{w.segment(t, []int{0}, at/40)}, calls)
				want.File = want.File[at%40:][:1]
			}
			wantRange(t, fmt.Sprint("segment ", j), n, w.cap, at, 1, want, e)
		}
		wantRange(t, fmt.Sprint("up to segment ", j), n, w.cap, 0, 40*j+1, asked(2+1+j+1), api.ErrWrong)
	}
}

// TestP26_1Padding: what stands behind a segment's bytes in its blocks is passed over, whatever it is.
func TestP26_1Padding(t *testing.T) {
	s := four{3, 3, 12, 40} // the last segment has 4 bytes, in blocks of 2
	a := truthOf(t, filled(40, 3), params(3, 3, 12))
	blocks := a.blocksOf()
	if len(blocks[2][3]) != 2 {
		t.Fatal("no such blocks")
	}
	blocks[2][3] = []byte{7, 8} // number 2 holds nothing but padding there
	w := forged(s, a.cap.Key, blocks, a.segs)
	n := begun(t, holding(w.index, w.shares, []int{0, 1, 2}))
	want := a.whole(1 + 3*5)
	want.Ueb = uebBytes(w.ueb)
	wantGet(t, "padding", n, w.cap, want, api.OK)
	blocks[1][3] = []byte{7, 8} // of number 1, bytes of the file
	w = forged(s, a.cap.Key, blocks, a.segs)
	wantGet(t, "no padding", begun(t, holding(w.index, w.shares, []int{0, 1, 2})), w.cap, asked(1+3*5), api.ErrWrong)
}

// TestP26_1AnyKey: with another file's key nothing but the file's bytes are others: it is not they that are bound.
func TestP26_1AnyKey(t *testing.T) {
	a := truthOf(t, filled(100, 5), params(2, 3, 40))
	w := forged(a.four, api.Key{1, 2, 3}, a.blocksOf(), a.segs)
	n := begun(t, holding(w.index, w.shares, []int{0, 1, 2}))
	segs := a.cut(ciphered(a.cap.Key, a.file))
	wantGet(t, "another key", n, w.cap, w.got(0, segs, 9), api.OK)
	if g, _ := get.Get(n, w.cap); slices.Equal(g.File, a.file) || w.ueb != a.ueb {
		t.Error("the file came back without its key")
	}
}
