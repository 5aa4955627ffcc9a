package get_test

import (
	"bytes"
	"slices"
	"testing"

	"strongroom/api"
	"strongroom/get"
)

// roomy gives a list with spare room, and tells later whether it or its room was changed.
func roomy(list []byte) ([]byte, func() bool) {
	whole := append(bytes.Clone(list), 201, 202, 203, 204)
	before := bytes.Clone(whole)
	return whole[:len(list)], func() bool { return !bytes.Equal(whole, before) }
}

// spoil overwrites lists and their spare room.
func spoil(lists ...[]byte) {
	for _, b := range lists {
		b = b[:cap(b)]
		for i := range b {
			b[i] ^= 0x5a
		}
	}
}

func copied(g api.Got) api.Got {
	g.Ueb, g.File = bytes.Clone(g.Ueb), bytes.Clone(g.File)
	g.Segs = slices.Clone(g.Segs)
	for i, s := range g.Segs {
		g.Segs[i] = bytes.Clone(s)
	}
	return g
}

// lists gives all lists of bytes of an answer.
func lists(g api.Got) [][]byte { return append([][]byte{g.Ueb, g.File}, g.Segs...) }

// wantApart: no list of an answer has a part in another one.
func wantApart(t *testing.T, what string, g api.Got) {
	t.Helper()
	for i := range lists(g) {
		want := copied(g)
		spoil(lists(g)[i])
		for j, b := range lists(g) {
			if j != i && !bytes.Equal(b, lists(want)[j]) {
				t.Errorf("%s: list %d has a part in list %d", what, j, i)
			}
		}
	}
}

// TestR3Get: what is answered is memory of its own: two reads are apart, the net has no part in them, nor have the lists of one.
func TestR3Get(t *testing.T) {
	for _, s := range []four{{1, 1, 100, 100}, {1, 2, 40, 100}, {2, 3, 40, 99}, {3, 5, 12, 100}} {
		w := truthOf(t, filled(s[3], 1), params(s[0], s[1], s[2]))
		n := begun(t, holding(w.index, w.shares, spread(s[1], 2)...))
		calls := 2 + s[0]*(1+w.four.segs())
		a, _ := get.Get(n, w.cap)
		b, _ := get.Get(n, w.cap)
		c, _ := get.Range(n, w.cap, 0, s[3])
		d, _ := get.Range(n, w.cap, 1, s[3]-2)
		trace := n.Transcript()
		before := copied(b)
		spoil(lists(a)...)
		spoil(lists(c)...)
		spoil(lists(d)...)
		clear(a.Segs[:cap(a.Segs)])
		if !sameGot(b, before) {
			t.Errorf("%v: two reads have a part in common", s)
		}
		for i, x := range n.Transcript() {
			if !bytes.Equal(x.Reply, trace[i].Reply) || !bytes.Equal(x.Request, trace[i].Request) {
				t.Errorf("%v: the net has a part in an answer", s)
			}
		}
		wantGet(t, "behind it", n, w.cap, w.whole(calls), api.OK)
		wantApart(t, "Get", b)
		for at := range s[3] {
			g, _ := get.Range(n, w.cap, at, s[3]-at)
			wantApart(t, "Range", g)
		}
	}
}

// TestR3Again: a transcript stays as it is, and no answer has a part in it, whatever is told of it.
func TestR3Again(t *testing.T) {
	w := example(t, 250)
	for i, trace := range traces(t, w) {
		var changed []func() bool
		for at := range trace {
			var turned func() bool
			trace[at].Request, turned = roomy(trace[at].Request)
			changed = append(changed, turned)
			trace[at].Reply, turned = roomy(trace[at].Reply)
			changed = append(changed, turned)
		}
		before := slices.Clone(append(trace, api.Exchange{Number: 99}))
		wide := slices.Clone(before)
		for end := range len(before) + 1 {
			get.Again(w.cap, 3, wide[:end])
		}
		a, _, e := get.Again(w.cap, 3, wide[:len(trace)])
		want := copied(a)
		spoil(lists(a)...)
		if b, _, g := get.Again(w.cap, 3, wide[:len(trace)]); g != e || !sameGot(b, want) {
			t.Errorf("%d: an answer has a part in the transcript, or in another answer", i)
		}
		for _, turned := range changed {
			if turned() {
				t.Errorf("%d: a request or a reply was changed", i)
			}
		}
		if !slices.EqualFunc(wide, before, func(a, b api.Exchange) bool {
			return a.Number == b.Number && a.Server == b.Server && a.Sent == b.Sent && a.Came == b.Came && a.Tick == b.Tick && bytes.Equal(a.Request, b.Request) && bytes.Equal(a.Reply, b.Reply)
		}) {
			t.Errorf("%d: an exchange was changed", i)
		}
		b, _, _ := get.Again(w.cap, 3, wide[:len(trace)])
		for at := range trace {
			spoil(trace[at].Request, trace[at].Reply)
		}
		if !sameGot(b, want) {
			t.Errorf("%d: an answer has a part in the transcript", i)
		}
		wantApart(t, "Again", b)
	}
}
