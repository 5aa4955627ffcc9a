package check_test

import (
	"bytes"
	"slices"
	"testing"

	"strongroom/api"
	"strongroom/check"
)

// spoil overwrites lists and their spare room.
func spoil(lists ...[]byte) {
	for _, b := range lists {
		b = b[:cap(b)]
		for i := range b {
			b[i] ^= 0x5a
		}
	}
}

// spoilPairs and spoilNumbers likewise.
func spoilPairs(l []api.Pair) {
	l = l[:cap(l)]
	for i := range l {
		l[i] = on(l[i].Server+1000, l[i].Number+1000)
	}
}

func spoilNumbers(l []int) {
	l = l[:cap(l)]
	for i := range l {
		l[i] += 1000
	}
}

// wantApart: no list of an answer has a part in another one.
func wantApart(t *testing.T, what string, c api.Checked) {
	t.Helper()
	want := copied(c)
	spoilPairs(c.Good)
	if !slices.Equal(c.Bad, want.Bad) || !slices.Equal(c.Silent, want.Silent) {
		t.Errorf("%s: Good has a part in another list", what)
	}
	want = copied(c)
	spoilPairs(c.Bad)
	if !slices.Equal(c.Good, want.Good) || !slices.Equal(c.Silent, want.Silent) {
		t.Errorf("%s: Bad has a part in another list", what)
	}
	want = copied(c)
	spoilNumbers(c.Silent)
	if !slices.Equal(c.Good, want.Good) || !slices.Equal(c.Bad, want.Bad) {
		t.Errorf("%s: Silent has a part in another list", what)
	}
}

// TestR3Tell: what is handed in stays as it is, its spare room too, and what is answered has no part in it.
func TestR3Tell(t *testing.T) {
	v := capOf(1, 3)
	for _, pairs := range [][]api.Pair{{on(0, 0), on(1, 2), on(0, 1)}, {on(0, 0)}, {}, {on(0, 40), on(99, 0), on(0, 0)}} {
		for _, of := range []api.Verify{v, {}} {
			whole := append(slices.Clone(pairs), on(5, 6), on(7, 8))
			list, before := whole[:len(pairs)], slices.Clone(whole)
			some := []int{4, 2, 9, 77}
			c, e := check.Tell(of, list, list, some[:3])
			want := copied(c)
			again, _ := check.Tell(of, list, list, some[:3])
			spoilPairs(again.Good)
			spoilPairs(again.Bad)
			spoilNumbers(again.Silent)
			if !slices.Equal(whole, before) || !slices.Equal(some, []int{4, 2, 9, 77}) {
				t.Errorf("%d: an argument was changed, or has a part in the answer: %v, %v", e, whole, some)
			}
			spoilPairs(whole)
			spoilNumbers(some)
			if !sameChecked(c, want) {
				t.Errorf("%d: the answer has a part in an argument, or in another answer: %+v, want %+v", e, c, want)
			}
			wantApart(t, "Tell", c)
		}
	}
}

// TestR3Check: what is answered is memory of its own: the net has no part in it, nor has another answer.
func TestR3Check(t *testing.T) {
	for i, s := range []four{{1, 1, 100, 100}, {1, 2, 40, 100}, {2, 3, 40, 99}, {3, 5, 12, 100}} {
		w := truthOf(t, s, 30+i)
		n := begun(t, holding(w.v.Index, w.shares, upTo(s[1]), upTo(s[1]), upTo(s[1])), nil, slices.Repeat([]api.Fate{drop()}, 6))
		good := slices.DeleteFunc(lying(t, n, w), func(p api.Pair) bool { return p.Server == 1 })
		want := found(w.v, good, nil, 1)
		a, e := check.Check(n, w.v)
		wantChecked(t, "Check", a, e, want, api.OK)
		b, blocks, e := check.Shares(n, w.v)
		wantChecked(t, "Shares", b, e, want, api.OK)
		trace := n.Transcript()
		for _, row := range blocks {
			spoil(row...)
		}
		wantApart(t, "Check", a)
		wantChecked(t, "Shares, Check's answer being spoilt", b, e, want, api.OK)
		wantApart(t, "Shares", b)
		if !sameTrace(trace, n.Transcript()) {
			t.Errorf("%v: the net has a part in an answer", s)
		}
		wantShares(t, "behind it", n, w, want)
	}
}

// deep gives blocks that have no part in others.
func deep(blocks [][][]byte) [][][]byte {
	var l [][][]byte
	for _, row := range blocks {
		var own [][]byte
		for _, b := range row {
			own = append(own, bytes.Clone(b))
		}
		l = append(l, own)
	}
	return l
}

// TestR3Blocks: no list of blocks and no block has a part in another one.
func TestR3Blocks(t *testing.T) {
	w := truthOf(t, four{2, 3, 40, 100}, 40)
	n := begun(t, holding(w.v.Index, w.shares, upTo(3), upTo(3)))
	_, blocks, _ := check.Shares(n, w.v)
	if len(blocks) != 6 {
		t.Fatalf("blocks of %d", len(blocks))
	}
	for i, row := range blocks {
		for j, b := range row {
			want := deep(blocks)
			spoil(b, want[i][j])
			if !sameBlocks(blocks, want) {
				t.Errorf("the block of segment %d of pair %d has a part in another one", j, i)
			}
		}
	}
	for i, row := range blocks {
		want := deep(blocks)
		clear(row[:cap(row)])
		clear(want[i])
		if !sameBlocks(blocks, want) {
			t.Errorf("the list of pair %d has a part in another one", i)
		}
	}
}
