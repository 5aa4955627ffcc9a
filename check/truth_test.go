package check_test

import (
	"bytes"
	"crypto/aes"
	"crypto/cipher"
	"slices"
	"testing"

	"strongroom/api"
	"strongroom/recipe"
)

// truth is what a capability speaks of: the one share of each number that validates under it, of a file or of none.
type truth struct {
	v      api.Verify
	four   four
	ueb    api.Ueb
	shares [][]byte
}

// madeOf gives what a file comes to.
func madeOf(t *testing.T, file []byte, p api.Params) api.Made {
	t.Helper()
	m, e := recipe.Make(file, p)
	if e != api.OK {
		t.Fatalf("Make of %d bytes, %+v: %d", len(file), p, e)
	}
	return m
}

// truthOf gives what the capability of a file speaks of, the file being filled with a seed.
func truthOf(t *testing.T, s four, seed int) truth {
	t.Helper()
	m := madeOf(t, filled(s[3], seed), params(s[0], s[1], s[2]))
	return truth{v: m.Verify, four: s, ueb: m.Ueb, shares: m.Shares}
}

// forged makes a capability for blocks, by number and segment, and for digests of segments, whatever they are.
func forged(s four, x api.Index, blocks [][][]byte, segs []api.Digest) truth {
	w := truth{four: s}
	segTree := over(segs)
	var roots []api.Digest
	var trees [][]api.Digest
	for _, row := range blocks {
		var leaves []api.Digest
		for _, b := range row {
			leaves = append(leaves, tagged("block", b))
		}
		nodes := over(leaves)
		trees, roots = append(trees, nodes), append(roots, tagged("root", nodes[0][:]))
	}
	shareTree := over(roots)
	w.ueb = api.Ueb{K: s[0], N: s[1], Seg: s[2], Size: s[3], Shares: shareTree[0], Segs: segTree[0]}
	w.v = api.Verify{Index: x, Ueb: tagged("ueb", uebBytes(w.ueb)), K: s[0], N: s[1], Seg: s[2], Size: s[3]}
	for i, row := range blocks {
		var chain []api.Digest
		for x := widthOf(s[1]) + i; x > 1; x /= 2 {
			chain = append(chain, shareTree[x^1-1])
		}
		w.shares = append(w.shares, shareBytes(i, w.ueb, chain, trees[i], segTree, row))
	}
	return w
}

// shareBytes puts a share together by the table of chapter 14.
func shareBytes(number int, u api.Ueb, chain, blocks, segs []api.Digest, data [][]byte) []byte {
	bound, all := uebBytes(u), slices.Concat(data...)
	at := 36
	words := []int{0x524f4f4d, 1, number, at}
	for _, n := range []int{len(bound), 32 * len(chain), 32 * len(blocks), 32 * len(segs), len(all)} {
		at += n
		words = append(words, at)
	}
	var b []byte
	for _, w := range words {
		b = append(b, byte(w>>24), byte(w>>16), byte(w>>8), byte(w))
	}
	b = append(b, bound...)
	for _, d := range slices.Concat(chain, blocks, segs) {
		b = append(b, d[:]...)
	}
	return append(b, all...)
}

// noFile gives what a capability speaks of whose shares are no file's: their blocks and the digests of segments have nothing to do with one another.
func noFile(s four, seed int) truth {
	var blocks [][][]byte
	for i := range s[1] {
		var row [][]byte
		for j := range s.segs() {
			row = append(row, filled(s.blockLen(j), seed+100*i+j))
		}
		blocks = append(blocks, row)
	}
	var segs []api.Digest
	for j := range s.segs() {
		segs = append(segs, tagged("pad", filled(4, seed+j)))
	}
	return forged(s, api.Index{byte(seed), 2}, blocks, segs)
}

func (w truth) front(number int) []byte { return w.shares[number][:w.four.frontLen()] }

func (w truth) block(number, j int) []byte {
	return w.shares[number][w.four.place(j):][:w.four.blockLen(j)]
}

// row gives the blocks of a number, by segment.
func (w truth) row(number int) [][]byte {
	var l [][]byte
	for j := range w.four.segs() {
		l = append(l, w.block(number, j))
	}
	return l
}

// rows gives the blocks of each of some pairs.
func (w truth) rows(pairs []api.Pair) [][][]byte {
	var l [][][]byte
	for _, p := range pairs {
		l = append(l, w.row(p.Number))
	}
	return l
}

func (w truth) frontFetch(number int) []byte { return fetch(w.v.Index, number, 0, w.four.frontLen()) }

func (w truth) blockFetch(number, j int) []byte {
	return fetch(w.v.Index, number, w.four.place(j), w.four.blockLen(j))
}

// most tells how many requests a check makes at most.
func (w truth) most(servers int) int { return servers + servers*w.four[1]*(1+w.four.segs()) }

// in gives pairs as the servers are asked, and of each server by number.
func (w truth) in(servers int, pairs ...api.Pair) []api.Pair {
	var l []api.Pair
	for _, s := range orderOf(w.v.Index, servers) {
		for number := range api.MaxN {
			if slices.Contains(pairs, on(s, number)) {
				l = append(l, on(s, number))
			}
		}
	}
	return l
}

// TestForged: what is forged of a file's own blocks and digests is the file's capability and its shares.
func TestForged(t *testing.T) {
	for i, s := range shapes() {
		m := madeOf(t, filled(s[3], i), params(s[0], s[1], s[2]))
		w := truthOf(t, s, i)
		ciphered := make([]byte, s[3])
		c, _ := aes.NewCipher(m.Read.Key[:])
		cipher.NewCTR(c, make([]byte, 16)).XORKeyStream(ciphered, filled(s[3], i))
		var segs []api.Digest
		for j := range s.segs() {
			segs = append(segs, tagged("segment", ciphered[j*s[2]:][:s.segLen(j)]))
		}
		var blocks [][][]byte
		for number := range s[1] {
			blocks = append(blocks, w.row(number))
		}
		if f := forged(s, w.v.Index, blocks, segs); f.v != w.v || f.ueb != w.ueb || !slices.EqualFunc(f.shares, w.shares, bytes.Equal) {
			t.Errorf("%v: %+v, want %+v", s, f.v, w.v)
		}
	}
}

// said gives the numbers that a reply tells, and whether it is one of that kind.
func said(reply []byte) ([]byte, bool) {
	if len(reply) < 2 || reply[0] != 1 || len(reply) != 2+int(reply[1]) {
		return nil, false
	}
	l := reply[2:]
	for i, number := range l {
		if number > 254 || i > 0 && number <= l[i-1] {
			return nil, false
		}
	}
	return l, true
}

// follower goes along a list of exchanges by the chapter's words, call by call.
type follower struct {
	truth
	trace   []api.Exchange
	batches []int // how many calls each had
	used    int
	fits    bool
}

// ask makes a batch of calls, if it has any; what came, nil where nothing did.
func (f *follower) ask(pairs []api.Pair, request func(p api.Pair) []byte) [][]byte {
	replies := make([][]byte, len(pairs))
	for i, p := range pairs {
		if f.used == len(f.trace) || f.trace[f.used].Server != p.Server || !bytes.Equal(f.trace[f.used].Request, request(p)) {
			f.fits = false
			break
		}
		if x := f.trace[f.used]; x.Came {
			replies[i] = append([]byte{}, x.Reply...)
		}
		f.used++
	}
	if len(pairs) > 0 {
		f.batches = append(f.batches, len(pairs))
	}
	return replies
}

// held gives those of pairs whose reply brings what it must.
func held(pairs []api.Pair, replies [][]byte, must func(p api.Pair) []byte) []api.Pair {
	var l []api.Pair
	for i, p := range pairs {
		if bytes.Equal(replies[i], brought(must(p))) {
			l = append(l, p)
		}
	}
	return l
}

// follow tells what a check comes to of which these exchanges are told, how many calls each of its batches has, and whether it makes just these calls.
func (w truth) follow(servers int, trace []api.Exchange) (api.Checked, []int, bool) {
	f := &follower{truth: w, trace: trace, fits: true}
	var asked, all, bad []api.Pair
	for _, s := range orderOf(w.v.Index, servers) {
		asked = append(asked, on(s, 0))
	}
	var silent []int
	for i, reply := range f.ask(asked, func(api.Pair) []byte { return have(w.v.Index) }) {
		l, is := said(reply)
		if !is {
			silent = append(silent, asked[i].Server)
		}
		for _, number := range l {
			if int(number) < w.four[1] {
				all = append(all, on(asked[i].Server, int(number)))
			}
		}
	}
	slices.Sort(silent)
	good := held(all, f.ask(all, func(p api.Pair) []byte { return w.frontFetch(p.Number) }), func(p api.Pair) []byte { return w.front(p.Number) })
	for j := range w.four.segs() {
		replies := f.ask(good, func(p api.Pair) []byte { return w.blockFetch(p.Number, j) })
		good = held(good, replies, func(p api.Pair) []byte { return w.block(p.Number, j) })
	}
	for _, p := range all {
		if !slices.Contains(good, p) {
			bad = append(bad, p)
		}
	}
	return found(w.v, good, bad, silent...), f.batches, f.fits && f.used == len(trace)
}

// wantBatches: each batch was sent at one tick, and each behind the one ahead of it.
func wantBatches(t *testing.T, trace []api.Exchange, batches []int) {
	t.Helper()
	sent := -1
	for _, calls := range batches {
		if trace[0].Sent <= sent {
			t.Errorf("a batch at %d, one ahead of it at %d", trace[0].Sent, sent)
		}
		sent = trace[0].Sent
		for _, x := range trace[:calls] {
			if x.Sent != sent {
				t.Errorf("a call at %d in a batch at %d", x.Sent, sent)
			}
		}
		trace = trace[calls:]
	}
}

// wantFollowed holds a check against the words, along its calls.
func wantFollowed(t *testing.T, what string, w truth, servers int, trace []api.Exchange, c api.Checked, e api.Errno) {
	t.Helper()
	want, batches, fits := w.follow(servers, trace)
	if !fits {
		t.Errorf("%s: of %d calls not all fit", what, len(trace))
		return
	}
	wantChecked(t, what, c, e, want, api.OK)
	wantBatches(t, trace, batches)
	if len(trace) > w.most(servers) {
		t.Errorf("%s: %d calls, at most %d", what, len(trace), w.most(servers))
	}
}
