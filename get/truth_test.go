package get_test

import (
	"bytes"
	"slices"
	"testing"

	"strongroom/api"
	"strongroom/cut"
	"strongroom/rs"
)

// truth is what a capability speaks of: the one share of each number that validates under it, of a file or of none.
type truth struct {
	cap    api.Read
	index  api.Index
	four   four
	ueb    api.Ueb
	segs   []api.Digest // the digests that segments must have
	shares [][]byte
	file   []byte // nothing, if it is of none
}

// truthOf gives what the capability of a file speaks of.
func truthOf(t *testing.T, file []byte, p api.Params) truth {
	t.Helper()
	m := made(t, file, p)
	w := truth{cap: m.Read, index: m.Verify.Index, four: four{m.Ueb.K, m.Ueb.N, m.Ueb.Seg, m.Ueb.Size}, ueb: m.Ueb, shares: m.Shares, file: file}
	for _, segment := range w.cut(ciphered(m.Read.Key, file)) {
		w.segs = append(w.segs, tagged("segment", segment))
	}
	return w
}

// cut gives the segments of bytes.
func (w truth) cut(b []byte) [][]byte {
	var l [][]byte
	for j := range w.four.segs() {
		l = append(l, b[j*w.four[2]:][:w.four.segLen(j)])
	}
	return l
}

// forged makes a capability for blocks, by number and segment, and digests of segments that may be those of no file.
func forged(s four, key api.Key, blocks [][][]byte, segs []api.Digest) truth {
	w := truth{index: indexOf(key), four: s, segs: segs}
	segTree := over(segs)
	var roots []api.Digest
	var trees [][]api.Digest
	for _, row := range blocks {
		var leaves []api.Digest
		for _, b := range row {
			leaves = append(leaves, tagged("block", b))
		}
		nodes := over(leaves)
		trees, roots = append(trees, nodes), append(roots, tagged("root", nodes[0][:]))
	}
	shareTree := over(roots)
	w.ueb = api.Ueb{K: s[0], N: s[1], Seg: s[2], Size: s[3], Shares: shareTree[0], Segs: segTree[0]}
	w.cap = api.Read{Key: key, Ueb: tagged("ueb", uebBytes(w.ueb)), K: s[0], N: s[1], Seg: s[2], Size: s[3]}
	for i, row := range blocks {
		var chain []api.Digest
		for x := widthOf(s[1]) + i; x > 1; x /= 2 {
			chain = append(chain, shareTree[x^1-1])
		}
		w.shares = append(w.shares, shareBytes(i, w.ueb, chain, trees[i], segTree, row))
	}
	return w
}

// shareBytes puts a share together by the table of chapter 14.
func shareBytes(number int, u api.Ueb, chain, blocks, segs []api.Digest, data [][]byte) []byte {
	bound, all := uebBytes(u), slices.Concat(data...)
	at := 36
	words := []int{0x524f4f4d, 1, number, at}
	for _, n := range []int{len(bound), 32 * len(chain), 32 * len(blocks), 32 * len(segs), len(all)} {
		at += n
		words = append(words, at)
	}
	var b []byte
	for _, w := range words {
		b = append(b, byte(w>>24), byte(w>>16), byte(w>>8), byte(w))
	}
	b = append(b, bound...)
	for _, d := range slices.Concat(chain, blocks, segs) {
		b = append(b, d[:]...)
	}
	return append(b, all...)
}

// blocksOf gives the blocks of a truth, by number and segment.
func (w truth) blocksOf() [][][]byte {
	var l [][][]byte
	for i := range w.shares {
		var row [][]byte
		for j := range w.four.segs() {
			row = append(row, w.block(i, j))
		}
		l = append(l, row)
	}
	return l
}

func (w truth) front(number int) []byte { return w.shares[number][:w.four.frontLen()] }

func (w truth) block(number, j int) []byte {
	return w.shares[number][w.four.place(j):][:w.four.blockLen(j)]
}

func (w truth) frontFetch(number int) []byte { return fetch(w.index, number, 0, w.four.frontLen()) }

func (w truth) blockFetch(number, j int) []byte {
	return fetch(w.index, number, w.four.place(j), w.four.blockLen(j))
}

// segment gives what the blocks of numbers come to.
func (w truth) segment(t *testing.T, numbers []int, j int) []byte {
	t.Helper()
	c, _ := rs.New(w.four[0], w.four[1])
	var blocks [][]byte
	for _, i := range numbers {
		blocks = append(blocks, w.block(i, j))
	}
	first, e := c.Decode(numbers, blocks)
	if e != api.OK {
		t.Fatalf("Decode of %v: %d", numbers, e)
	}
	segment, e := cut.Join(first, w.four.segLen(j))
	if e != api.OK {
		t.Fatalf("Join of segment %d: %d", j, e)
	}
	return segment
}

// got gives what a read of segments comes to which brings them.
func (w truth) got(first int, segs [][]byte, calls int) api.Got {
	at := first * w.four[2]
	all := slices.Concat(segs...)
	file := ciphered(w.cap.Key, append(make([]byte, at), all...))[at:]
	return api.Got{Ueb: uebBytes(w.ueb), First: first, Segs: segs, File: file, Requests: calls}
}

// whole gives what a read of all of a file comes to.
func (w truth) whole(calls int) api.Got {
	return w.got(0, w.cut(ciphered(w.cap.Key, w.file)), calls)
}

// stretch gives what a read of a stretch of a file comes to.
func (w truth) stretch(at, size, calls int) api.Got {
	if size == 0 {
		return api.Got{}
	}
	first, last := w.touched(at, size)
	g := w.got(first, w.cut(ciphered(w.cap.Key, w.file))[first:last+1], calls)
	g.File = w.file[at : at+size]
	return g
}

// touched tells the first and the last segment that a stretch touches, byte by byte.
func (w truth) touched(at, size int) (int, int) {
	first, last := -1, -1
	for j := range w.four.segs() {
		if begin := j * w.four[2]; begin < at+size && at < begin+w.four[2] {
			if first < 0 {
				first = j
			}
			last = j
		}
	}
	return first, last
}

// pair is a number on a server, as a read keeps it.
type pair struct {
	server, number int
	opened         bool
	given          int // the segment of which it gave the block last
}

// follower goes along a list of exchanges by the chapter's words, call by call.
type follower struct {
	truth
	trace   []api.Exchange
	batches []int // how many calls each had
	used    int
	fits    bool
}

// ask makes a batch of calls; what came, nil where nothing did.
func (f *follower) ask(servers []int, requests [][]byte) [][]byte {
	var replies [][]byte
	for i, s := range servers {
		if f.used == len(f.trace) || f.trace[f.used].Server != s || !bytes.Equal(f.trace[f.used].Request, requests[i]) {
			f.fits = false
			return nil
		}
		var reply []byte
		if x := f.trace[f.used]; x.Came {
			reply = append([]byte{}, x.Reply...)
		}
		replies = append(replies, reply)
		f.used++
	}
	f.batches = append(f.batches, len(servers))
	return replies
}

// told gives the numbers that a reply tells, if it is one of that kind.
func told(reply []byte) []byte {
	if len(reply) < 2 || reply[0] != 1 || len(reply) != 2+int(reply[1]) {
		return nil
	}
	l := reply[2:]
	for i, number := range l {
		if number > 254 || i > 0 && number <= l[i-1] {
			return nil
		}
	}
	return l
}

// candidates finds the pairs.
func (f *follower) candidates(servers int) []pair {
	order := orderOf(f.index, servers)
	replies := f.ask(order, slices.Repeat([][]byte{have(f.index)}, servers))
	var l []pair
	for i, reply := range replies {
		for _, number := range told(reply) {
			if int(number) < f.four[1] {
				l = append(l, pair{server: order[i], number: int(number), given: -1})
			}
		}
	}
	return l
}

// fill fills up the pairs in use out of those that were not taken; all of them in use have been opened behind it.
func (f *follower) fill(use, left []pair) ([]pair, []pair) {
	for f.fits {
		for len(use) < f.four[0] {
			i := slices.IndexFunc(left, func(c pair) bool {
				return !slices.ContainsFunc(use, func(p pair) bool { return p.number == c.number })
			})
			if i < 0 {
				break
			}
			use, left = append(slices.Clone(use), left[i]), slices.Delete(slices.Clone(left), i, i+1)
		}
		var servers []int
		var requests [][]byte
		for _, p := range use {
			if !p.opened {
				servers, requests = append(servers, p.server), append(requests, f.frontFetch(p.number))
			}
		}
		if len(servers) == 0 {
			break
		}
		replies := f.ask(servers, requests)
		if !f.fits {
			break
		}
		var stay []pair
		for _, p := range use {
			if !p.opened {
				p.opened = bytes.Equal(replies[0], brought(f.front(p.number)))
				replies = replies[1:]
			}
			if p.opened {
				stay = append(stay, p)
			}
		}
		use = stay
	}
	return use, left
}

// blocks asks for the blocks of a segment which lack.
func (f *follower) blocks(use []pair, j int) []pair {
	var servers []int
	var requests [][]byte
	for _, p := range use {
		if p.given != j {
			servers, requests = append(servers, p.server), append(requests, f.blockFetch(p.number, j))
		}
	}
	replies := f.ask(servers, requests)
	if !f.fits {
		return nil
	}
	var stay []pair
	for _, p := range use {
		if p.given != j {
			if bytes.Equal(replies[0], brought(f.block(p.number, j))) {
				p.given = j
			}
			replies = replies[1:]
		}
		if p.given == j {
			stay = append(stay, p)
		}
	}
	return stay
}

// follow tells what a read of segments comes to of which these exchanges are told, at which place they do not fit, and how many calls each of its batches had.
func (w truth) follow(t *testing.T, servers, first, last int, trace []api.Exchange) (api.Got, int, api.Errno, []int) {
	t.Helper()
	f := &follower{truth: w, trace: trace, fits: true}
	g, e := f.read(t, servers, first, last)
	if !f.fits || f.used < len(trace) {
		return api.Got{}, f.used, api.ErrTrace, nil
	}
	return g, 0, e, f.batches
}

func (f *follower) read(t *testing.T, servers, first, last int) (api.Got, api.Errno) {
	t.Helper()
	left := []pair(nil)
	if servers > 0 {
		left = f.candidates(servers)
	}
	var use []pair
	var segs [][]byte
	for j := first; j <= last; j++ {
		for f.fits {
			use, left = f.fill(use, left)
			if !f.fits {
				break
			}
			if len(use) < f.four[0] {
				return asked(f.used), api.ErrFew
			}
			if use = f.blocks(use, j); len(use) == f.four[0] {
				break
			}
		}
		if !f.fits {
			return api.Got{}, 0
		}
		var numbers []int
		for _, p := range use {
			numbers = append(numbers, p.number)
		}
		segment := f.segment(t, numbers, j)
		if tagged("segment", segment) != f.segs[j] {
			return asked(f.used), api.ErrWrong
		}
		segs = append(segs, segment)
	}
	return f.got(first, segs, f.used), api.OK
}
