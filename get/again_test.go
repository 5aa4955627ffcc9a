package get_test

import (
	"bytes"
	"fmt"
	"slices"
	"testing"

	"strongroom/api"
	"strongroom/get"
	"strongroom/post"
)

// wantAgain holds Again against what it must tell.
func wantAgain(t *testing.T, what string, c api.Read, servers int, trace []api.Exchange, want api.Got, place int, wanted api.Errno) {
	t.Helper()
	g, at, e := get.Again(c, servers, trace)
	if at != place {
		t.Errorf("%s: at %d, want %d", what, at, place)
	}
	wantGot(t, what, g, e, want, wanted)
}

// read gives the transcript of a Get.
func read(t *testing.T, n *post.Net, c api.Read) []api.Exchange {
	t.Helper()
	from := n.Made()
	get.Get(n, c)
	return n.Transcript()[from:]
}

// TestP26_3Examples: what the chapter's examples come to is told of their transcripts.
func TestP26_3Examples(t *testing.T) {
	w := example(t, 100)
	for _, x := range []struct {
		fates [][]api.Fate
		want  api.Got
		e     api.Errno
	}{
		{nil, w.whole(7), api.OK},
		{[][]api.Fate{{honest(1), lie(9)}}, w.whole(8), api.OK},
		{[][]api.Fate{nil, nil, {honest(1), honest(1), drop()}}, w.whole(9), api.OK},
		{[][]api.Fate{{drop()}, {drop()}}, asked(4), api.ErrFew},
		{[][]api.Fate{{drop()}, {drop()}, {drop()}}, asked(3), api.ErrFew},
	} {
		trace := read(t, exampleNet(t, w, x.fates...), w.cap)
		wantAgain(t, fmt.Sprint(x.fates), w.cap, 3, trace, x.want, 0, x.e)
	}
}

// TestP26_3NoCap: told ahead of a number of servers that may not be.
func TestP26_3NoCap(t *testing.T) {
	w := example(t, 100)
	trace := read(t, exampleNet(t, w), w.cap)
	for _, c := range badCaps(w.cap) {
		for _, servers := range []int{-1, 0, 3, 33} {
			wantAgain(t, fmt.Sprintf("%+v", c), c, servers, trace, api.Got{}, 0, api.ErrCap)
			wantAgain(t, fmt.Sprintf("%+v", c), c, servers, nil, api.Got{}, 0, api.ErrCap)
		}
	}
}

func TestP26_3Servers(t *testing.T) {
	w := example(t, 100)
	trace := read(t, exampleNet(t, w), w.cap)
	for _, servers := range append(odd(), 0, 33, 64, 255) {
		wantAgain(t, fmt.Sprint(servers, " servers"), w.cap, servers, trace, api.Got{}, 0, api.ErrArg)
		wantAgain(t, fmt.Sprint(servers, " servers"), w.cap, servers, nil, api.Got{}, 0, api.ErrArg)
	}
	for _, servers := range []int{1, 2, 4, 5, 31, 32} {
		at := 0
		for at < len(trace) && at < servers && orderOf(w.index, servers)[at] == trace[at].Server {
			at++
		}
		wantAgain(t, fmt.Sprint(servers, " servers"), w.cap, servers, trace, api.Got{}, at, api.ErrTrace)
		wantAgain(t, fmt.Sprint(servers, " servers, nothing told"), w.cap, servers, nil, api.Got{}, 0, api.ErrTrace)
	}
	for _, servers := range []int{1, 32} {
		n := begun(t, holding(w.index, w.shares, append(spread(3, 1), make([][]int, servers-1)...)...))
		wantAgain(t, fmt.Sprint(servers, " servers"), w.cap, servers, read(t, n, w.cap), w.whole(servers+4), 0, api.OK)
	}
}

// traces are transcripts of reads of three segments, among them such as come to an error.
func traces(t *testing.T, w truth) [][]api.Exchange {
	row := slices.Repeat([]api.Fate{honest(1)}, 4)
	return [][]api.Exchange{
		read(t, exampleNet(t, w), w.cap),
		read(t, exampleNet(t, w, append(row, drop()), nil, []api.Fate{honest(4), honest(1)}), w.cap),
		read(t, exampleNet(t, w, append(row, lie(numbers(1)...)), append(row, late()), nil), w.cap),
		read(t, exampleNet(t, w, []api.Fate{drop()}, []api.Fate{drop()}), w.cap),
		read(t, exampleNet(t, w, []api.Fate{drop()}, []api.Fate{drop()}, []api.Fate{drop()}), w.cap),
	}
}

// TestP26_3TooFew: wherever a transcript is cut off, the number of what is left is told.
func TestP26_3TooFew(t *testing.T) {
	w := example(t, 250)
	for i, trace := range traces(t, w) {
		for end := range trace {
			wantAgain(t, fmt.Sprint(i, " cut off at ", end), w.cap, 3, trace[:end], api.Got{}, end, api.ErrTrace)
		}
	}
}

// TestP26_3TooMany: whatever stands behind what is used, the number of what is used is told.
func TestP26_3TooMany(t *testing.T) {
	w := example(t, 250)
	for i, trace := range traces(t, w) {
		for j, more := range [][]api.Exchange{{{}}, trace[:1], trace[len(trace)-1:], trace, {{}, {}, {}}} {
			wantAgain(t, fmt.Sprint(i, " and more ", j), w.cap, 3, slices.Concat(trace, more), api.Got{}, len(trace), api.ErrTrace)
		}
	}
}

// TestP26_3Unlike: a call of which something else is told, ahead of all that is told behind it.
func TestP26_3Unlike(t *testing.T) {
	w := example(t, 250)
	for i, trace := range traces(t, w) {
		for at, x := range trace {
			for _, server := range append(odd(), 0, 1, 2, 3, 32) {
				if server != x.Server {
					other := slices.Clone(trace)
					other[at].Server = server
					wantAgain(t, fmt.Sprint(i, " server ", server), w.cap, 3, other, api.Got{}, at, api.ErrTrace)
				}
			}
			bent := bytes.Clone(x.Request)
			bent[len(bent)-1] ^= 1
			first := bytes.Clone(x.Request)
			first[0] ^= 128
			for j, request := range [][]byte{nil, {}, bent, first, x.Request[1:], x.Request[:len(x.Request)-1], append(bytes.Clone(x.Request), 0)} {
				other := slices.Clone(trace)
				other[at].Request = request
				wantAgain(t, fmt.Sprint(i, " request ", j), w.cap, 3, other, api.Got{}, at, api.ErrTrace)
				wantAgain(t, fmt.Sprint(i, " request, nothing behind it ", j), w.cap, 3, other[:at+1], api.Got{}, at, api.ErrTrace)
				wantAgain(t, fmt.Sprint(i, " request, more behind it ", j), w.cap, 3, append(other, api.Exchange{}), api.Got{}, at, api.ErrTrace)
			}
		}
		if i < 3 { // two calls of one batch, the one in the other's place
			other := slices.Clone(trace)
			other[3], other[4] = other[4], other[3]
			wantAgain(t, fmt.Sprint(i, " turned over"), w.cap, 3, other, api.Got{}, 3, api.ErrTrace)
		}
	}
}

// TestP26_3NotLookedAt: numbers and ticks may be anything.
func TestP26_3NotLookedAt(t *testing.T) {
	w := example(t, 250)
	for i, trace := range traces(t, w) {
		want, _, e := get.Again(w.cap, 3, trace)
		for j, x := range odd() {
			other := slices.Clone(trace)
			for at := range other {
				other[at].Number, other[at].Sent, other[at].Tick = x, x+at, x-at
			}
			wantAgain(t, fmt.Sprint(i, " ", j), w.cap, 3, other, want, 0, e)
		}
	}
}

// TestP26_3Came: what did not come is no answer, whatever bytes stand there; what came is one, though it has none.
func TestP26_3Came(t *testing.T) {
	w := example(t, 100)
	trace := read(t, exampleNet(t, w, nil, nil, []api.Fate{honest(1), honest(1), drop()}), w.cap)
	if trace[5].Came {
		t.Fatal("that call was dropped")
	}
	for i, reply := range [][]byte{nil, {}, {9}, brought(w.block(0, 0))} {
		other := slices.Clone(trace)
		other[5].Reply = reply
		wantAgain(t, fmt.Sprint("did not come ", i), w.cap, 3, other, w.whole(9), 0, api.OK)
	}
	for i, reply := range [][]byte{nil, {}, {9}, {repNone}} {
		other := slices.Clone(trace)
		other[5].Came, other[5].Reply = true, reply
		wantAgain(t, fmt.Sprint("came ", i), w.cap, 3, other, w.whole(9), 0, api.OK)
	}
	other := slices.Clone(trace)
	other[5].Came, other[5].Reply = true, brought(w.block(0, 0))
	wantAgain(t, "came whole", w.cap, 3, other, api.Got{}, 7, api.ErrTrace)
	wantAgain(t, "came whole, and no more was asked", w.cap, 3, other[:7], w.whole(7), 0, api.OK)
	for at := range 3 { // a Have that did not come has no numbers
		other := slices.Clone(trace)
		other[at].Came = false
		_, place, e, _ := w.follow(t, 3, 0, 0, other)
		wantAgain(t, fmt.Sprint("no numbers ", at), w.cap, 3, other, api.Got{}, place, e)
		if e != api.ErrTrace {
			t.Errorf("%d: %d", at, e)
		}
	}
}

// TestP26_3Long: replies that no net would let through are looked at as they are told.
func TestP26_3Long(t *testing.T) {
	w := example(t, 100)
	trace := read(t, exampleNet(t, w), w.cap)
	trace[3].Reply = append(bytes.Clone(trace[3].Reply), make([]byte, api.MaxReply)...)
	wantAgain(t, "a long front", w.cap, 3, trace, api.Got{}, 5, api.ErrTrace)
}

// TestP26_6Model: of what any read added to the transcript, and the ticks and calls ahead of it do not matter.
func TestP26_6Model(t *testing.T) {
	c := count{}
	reads(t, 500, func(d draw, w truth, n *post.Net) {
		for range 2 {
			from := n.Made()
			g, e := get.Get(n, w.cap)
			c[e]++
			if n.Servers() == 0 {
				continue
			}
			wantAgain(t, "again", w.cap, n.Servers(), n.Transcript()[from:], g, 0, e)
			n.Wait(d.IntN(4))
		}
	})
	c.atLeast(t, 400, api.OK, api.ErrFew, api.ErrWrong)
}

// turned draws another transcript out of one.
func (d draw) turned(w truth, trace []api.Exchange) []api.Exchange {
	trace = slices.Clone(trace)
	if len(trace) == 0 {
		return trace
	}
	at := d.IntN(len(trace))
	x := &trace[at]
	switch d.IntN(9) {
	case 0:
		x.Server = d.IntN(7)
	case 1:
		x.Request = d.bent(x.Request)
	case 2:
		x.Came = !x.Came
	case 3:
		x.Came, x.Reply = true, d.reply(w)
	case 4:
		return trace[:at]
	case 5:
		return slices.Insert(trace, at, trace[d.IntN(len(trace))])
	case 6:
		return slices.Delete(trace, at, at+1)
	case 7:
		other := d.IntN(len(trace))
		trace[at], trace[other] = trace[other], trace[at]
	case 8:
		if len(x.Reply) > 0 {
			x.Reply = d.bent(x.Reply)
		}
	}
	return trace
}

// TestP26_3Model: of transcripts that were turned in many ways what the words say is told.
func TestP26_3Model(t *testing.T) {
	c := count{}
	reads(t, 500, func(d draw, w truth, n *post.Net) {
		if n.Servers() == 0 {
			return
		}
		trace := read(t, n, w.cap)
		for range 6 {
			trace = d.turned(w, trace)
			servers := n.Servers()
			if d.IntN(20) == 0 {
				servers = 1 + d.IntN(7)
			}
			want, place, e, _ := w.follow(t, servers, 0, w.four.segs()-1, trace)
			wantAgain(t, "turned", w.cap, servers, trace, want, place, e)
			c[e]++
		}
	})
	c.atLeast(t, 50, api.OK, api.ErrFew, api.ErrWrong)
	c.atLeast(t, 4000, api.ErrTrace)
}
