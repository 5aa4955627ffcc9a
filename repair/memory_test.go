package repair_test

import (
	"slices"
	"testing"

	"strongroom/api"
	"strongroom/repair"
)

// spoilPairs overwrites a list and its spare room.
func spoilPairs(l []api.Pair) {
	l = l[:cap(l)]
	for i := range l {
		l[i] = on(l[i].Server+1000, l[i].Number+1000)
	}
}

// spoilNumbers likewise.
func spoilNumbers(l []int) {
	l = l[:cap(l)]
	for i := range l {
		l[i] += 1000
	}
}

// TestR3Plan: what is handed in stays as it is, its spare room too, and what is answered has no part in it, nor in another list.
func TestR3Plan(t *testing.T) {
	v := capOf(2, 5, 1)
	for _, servers := range []int{0, 1, 4, 40} {
		good := []api.Pair{on(0, 3), on(0, 1), on(70, 80)}[:2]
		bad := []api.Pair{on(0, 0), on(0, 2), on(71, 81)}[:2]
		if servers == 0 {
			good, bad = good[:0], bad[:0]
		}
		wholeGood, wholeBad := slices.Clone(good[:3]), slices.Clone(bad[:3])
		l, e := repair.Plan(v, servers, good, bad)
		want := planned(v, min(servers, 32), good, bad)
		if servers == 40 {
			want = nil
		}
		if !slices.Equal(good[:3], wholeGood) || !slices.Equal(bad[:3], wholeBad) {
			t.Errorf("%d servers, %d: an argument was changed: %v, %v", servers, e, good[:3], bad[:3])
		}
		spoilPairs(good)
		spoilPairs(bad)
		if !sameTries(l, want) {
			t.Errorf("%d servers: %v, want %v", servers, l, want)
		}
		for i := range l {
			spoilNumbers(l[i].Servers)
			for j := range want[i].Servers {
				want[i].Servers[j] += 1000
			}
			if !sameTries(l, want) {
				t.Errorf("%d servers: the servers of try %d have a part in another one's: %v", servers, i, l)
			}
		}
	}
}

// wantApart: no list of an answer has a part in another one.
func wantApart(t *testing.T, r api.Repaired) {
	t.Helper()
	want := copied(r)
	spoilPairs(r.Good)
	if !slices.Equal(r.Stored, want.Stored) || !slices.Equal(r.Lacks, want.Lacks) {
		t.Error("Good has a part in another list")
	}
	want = copied(r)
	spoilPairs(r.Stored)
	if !slices.Equal(r.Good, want.Good) || !slices.Equal(r.Lacks, want.Lacks) {
		t.Error("Stored has a part in another list")
	}
	want = copied(r)
	spoilNumbers(r.Lacks)
	if !slices.Equal(r.Good, want.Good) || !slices.Equal(r.Stored, want.Stored) {
		t.Error("Lacks has a part in another list")
	}
}

// TestR3Repair: what is answered is memory of its own: the net has no part in it, nor has another answer.
func TestR3Repair(t *testing.T) {
	for i, s := range []four{{1, 6, 100, 100}, {1, 5, 40, 100}, {2, 7, 40, 99}, {3, 8, 12, 100}} {
		w := truthOf(t, s, 30+i)
		stores := holding(w.v.Index, w.shares, upTo(s[0]), upTo(s[0]), nil)
		for i := range stores {
			stores[i].Room = len(w.shares[0]) * (len(stores[i].Kept) + 1)
		}
		n := begun(t, stores)
		a, e := repair.Repair(n, w.v, lease(1, 9000))
		want := copied(a)
		trace := n.Transcript()
		wantFollowed(t, "Repair", w, 3, lease(1, 9000), trace, a, e)
		b, e := repair.Repair(begun(t, stores), w.v, lease(1, 9000))
		if len(a.Good) == 0 || len(a.Stored) == 0 || len(a.Lacks) == 0 {
			t.Errorf("%v: %+v, of which not all lists have something", s, a)
		}
		wantApart(t, a)
		wantRepaired(t, "another answer", b, e, want, api.ErrLacks)
		if !sameTrace(trace, n.Transcript()) {
			t.Errorf("%v: the net has a part in an answer", s)
		}
		behind := w.in(3, slices.Concat(want.Good, want.Stored)...)
		wantRepair(t, "behind it", n, w.v, lease(2, 9000), api.Repaired{Good: behind, Lacks: want.Lacks}, api.ErrLacks)
	}
}
