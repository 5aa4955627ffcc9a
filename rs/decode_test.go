package rs_test

import (
	"bytes"
	"slices"
	"testing"

	"strongroom/api"
	"strongroom/rs"
)

// lists goes through all lists of k unlike numbers below n, in every order.
func lists(k, n int, ahead []int, do func(numbers []int)) {
	if len(ahead) == k {
		do(slices.Clone(ahead))
		return
	}
	for number := range n {
		if !slices.Contains(ahead, number) {
			lists(k, n, append(ahead, number), do)
		}
	}
}

// shuffled gives k unlike numbers below n, in an order that hangs on the seed.
func shuffled(k, n, seed int) []int {
	next := chance(seed)
	var all []int
	for i := range n {
		all = slices.Insert(all, next(i+1), i)
	}
	return all[:k]
}

func picked(all [][]byte, numbers []int) [][]byte {
	var out [][]byte
	for _, number := range numbers {
		out = append(out, all[number])
	}
	return out
}

// decodes fails unless Decode and Make bring back what the blocks were made of.
func decodes(t *testing.T, c *rs.Code, numbers []int, data, all [][]byte) {
	t.Helper()
	blocks, stays := roomy(picked(all, numbers))
	wide := append(slices.Clone(numbers), 77)
	asked := wide[:len(numbers)]
	got, e := c.Decode(asked, blocks)
	if e != api.OK || !same(got, data) {
		t.Fatal(c.K(), c.N(), numbers, e)
	}
	for _, want := range someOf(c.N()) {
		block, e := c.Make(asked, blocks, want)
		if e != api.OK || !bytes.Equal(block, all[want]) {
			t.Fatal(c.K(), c.N(), numbers, want, e)
		}
		spoil(block)
	}
	spoil(got...)
	if !stays() || !slices.Equal(wide, append(slices.Clone(numbers), 77)) {
		t.Fatal("an argument was changed, or is a part of an answer", c.K(), c.N(), numbers)
	}
}

func TestP8_7All(t *testing.T) {
	for _, x := range [][2]int{{1, 1}, {1, 5}, {2, 2}, {2, 6}, {3, 3}, {3, 7}, {4, 6}, {5, 6}} {
		c := code(t, x[0], x[1])
		data := filled(x[0], 4, x[1])
		all, e := c.Encode(data)
		if e != api.OK {
			t.Fatal(x, e)
		}
		lists(x[0], x[1], nil, func(numbers []int) { decodes(t, c, numbers, data, all) })
	}
}

func TestP8_7Great(t *testing.T) {
	for seed, x := range codes() {
		c := code(t, x[0], x[1])
		data := filled(x[0], 5, seed)
		all, e := c.Encode(data)
		if e != api.OK {
			t.Fatal(x, e)
		}
		for round := range 3 {
			decodes(t, c, shuffled(x[0], x[1], seed*10+round), data, all)
		}
		rising := slices.Sorted(slices.Values(shuffled(x[1], x[1], 0)))
		decodes(t, c, rising[:x[0]], data, all)
		decodes(t, c, rising[x[1]-x[0]:], data, all)
		slices.Reverse(rising)
		decodes(t, c, rising[:x[0]], data, all)
		decodes(t, c, rising[x[1]-x[0]:], data, all)
	}
}

// Half of the greatest code's blocks lack: no greater matrix is ever turned over.
func TestP8_7Half(t *testing.T) {
	c := code(t, 127, 255)
	data := filled(127, 3, 9)
	all, e := c.Encode(data)
	if e != api.OK {
		t.Fatal(e)
	}
	var numbers []int
	for i := range 127 {
		numbers = append(numbers, 254-i)
	}
	got, e := c.Decode(numbers, picked(all, numbers))
	if e != api.OK || !same(got, data) {
		t.Error(e)
	}
}

// Any blocks whatever are those of their numbers of what Decode answers, be they blocks of Encode or not.
func TestP8_4Decode(t *testing.T) {
	for seed := range 40 {
		k := 1 + seed%6
		n := k + seed%7
		c := code(t, k, n)
		numbers := shuffled(k, n, seed)
		blocks, stays := roomy(filled(k, seed%4, seed))
		data, e := c.Decode(numbers, blocks)
		if e != api.OK || len(data) != k {
			t.Fatal(k, n, numbers, e)
		}
		for at, number := range numbers {
			if !bytes.Equal(blockOf(data, number), blocks[at]) {
				t.Error(k, n, numbers, at)
			}
		}
		want := copied(data)
		for i := range data {
			spoil(data[i])
			want[i] = slices.Clone(data[i])
			if !same(data, want) {
				t.Fatal("an answer's blocks hang together", k, n, i)
			}
		}
		if !stays() {
			t.Error("an argument was changed, or is a part of an answer", k, n)
		}
	}
}

func TestP8_5Make(t *testing.T) {
	for seed := range 40 {
		k := 1 + seed%6
		n := k + seed%7
		c := code(t, k, n)
		numbers := shuffled(k, n, seed)
		blocks := filled(k, seed%4, seed)
		data, e := c.Decode(numbers, blocks)
		if e != api.OK {
			t.Fatal(k, n, numbers, e)
		}
		for want := range n {
			if block, e := c.Make(numbers, blocks, want); e != api.OK || !bytes.Equal(block, blockOf(data, want)) {
				t.Error(k, n, numbers, want, e)
			}
		}
	}
}

func TestP8_4Refused(t *testing.T) {
	c := code(t, 3, 5)
	three := [][]byte{{1}, {2}, {3}}
	uneven := [][]byte{{1}, {2}, {3, 4}}
	type try struct {
		numbers []int
		blocks  [][]byte
		e       api.Errno
	}
	tries := []try{
		{nil, nil, api.ErrBlocks},
		{nil, three, api.ErrBlocks},
		{[]int{0, 1, 2}, nil, api.ErrBlocks},
		{[]int{2, 0}, three[:2], api.ErrBlocks},
		{[]int{2, 0}, three, api.ErrBlocks},
		{[]int{2, 0, 1}, three[:2], api.ErrBlocks},
		{[]int{2, 0, 1}, append(three[:3:3], []byte{4}), api.ErrBlocks},
		{[]int{2, 0, 1, 3}, three, api.ErrBlocks},
		{[]int{2, 0, 1, 3}, append(three[:3:3], []byte{4}), api.ErrBlocks},
		{[]int{2, 2}, three, api.ErrBlocks},
		{[]int{9, 0, 1, 3}, uneven, api.ErrBlocks},
		{[]int{1, 1, 2}, three, api.ErrNumbers},
		{[]int{1, 2, 1}, three, api.ErrNumbers},
		{[]int{2, 1, 1}, three, api.ErrNumbers},
		{[]int{4, 4, 4}, three, api.ErrNumbers},
		{[]int{4, 0, 4}, uneven, api.ErrNumbers},
		{[]int{4, 0, 5}, uneven, api.ErrNumbers},
		{[]int{0, 1, 2}, uneven, api.ErrUneven},
		{[]int{4, 3, 2}, [][]byte{{1}, nil, {3}}, api.ErrUneven},
		{[]int{4, 3, 2}, [][]byte{nil, {2}, {3}}, api.ErrUneven},
		{[]int{4, 3, 2}, [][]byte{nil, {}, nil}, api.OK},
	}
	for _, number := range outside(5) {
		tries = append(tries, try{[]int{number, 1, 2}, three, api.ErrNumbers}, try{[]int{0, 1, number}, three, api.ErrNumbers}, try{[]int{0, number, number}, uneven, api.ErrNumbers})
	}
	for _, x := range tries {
		data, e := c.Decode(x.numbers, x.blocks)
		if e != x.e || e != api.OK && len(data) != 0 {
			t.Error("Decode", x.numbers, x.blocks, data, e)
		}
		block, e := c.Make(x.numbers, x.blocks, 4)
		if e != x.e || len(block) != 0 {
			t.Error("Make", x.numbers, x.blocks, block, e)
		}
	}
	for _, c := range notMade() {
		if data, e := c.Decode([]int{0}, [][]byte{{1}}); len(data) != 0 || e != api.ErrNil {
			t.Error(data, e)
		}
		if data, e := c.Decode(nil, nil); len(data) != 0 || e != api.ErrNil {
			t.Error(data, e)
		}
	}
}

func TestP8_5Refused(t *testing.T) {
	c := code(t, 3, 5)
	for _, want := range outside(5) {
		for _, x := range []struct {
			numbers []int
			blocks  [][]byte
			e       api.Errno
		}{
			{[]int{0, 1, 2}, [][]byte{{1}, {2}, {3}}, api.ErrNumbers},
			{[]int{0, 1, 2}, [][]byte{{1}, {2}, {3, 4}}, api.ErrNumbers},
			{[]int{0, 0, 2}, [][]byte{{1}, {2}, {3}}, api.ErrNumbers},
			{[]int{0, 1}, [][]byte{{1}, {2}}, api.ErrBlocks},
			{[]int{0, 1, 2}, [][]byte{{1}, {2}}, api.ErrBlocks},
		} {
			if block, e := c.Make(x.numbers, x.blocks, want); len(block) != 0 || e != x.e {
				t.Error(want, x.numbers, x.blocks, block, e)
			}
		}
	}
	for _, c := range notMade() {
		for _, want := range []int{-1, 0, 1} {
			if block, e := c.Make([]int{0}, [][]byte{{1}}, want); len(block) != 0 || e != api.ErrNil {
				t.Error(want, block, e)
			}
			if block, e := c.Make(nil, nil, want); len(block) != 0 || e != api.ErrNil {
				t.Error(want, block, e)
			}
		}
	}
}

// unlikeBlocks counts the places at which two lists of blocks have unlike ones.
func unlikeBlocks(a, b [][]byte) int {
	count := 0
	for i := range a {
		if !bytes.Equal(a[i], b[i]) {
			count++
		}
	}
	return count
}

func encoded(t *testing.T, c *rs.Code, data [][]byte) [][]byte {
	t.Helper()
	all, e := c.Encode(data)
	if e != api.OK || len(all) != c.N() {
		t.Fatal(e, len(all))
	}
	return all
}

func TestP8_8FarApart(t *testing.T) {
	for _, n := range []int{2, 3, 9, 255} {
		c := code(t, 2, n)
		nought := encoded(t, c, [][]byte{{0}, {0}})
		least := n
		for one := range 256 {
			// All others are multiples of these.
			for _, data := range [][][]byte{{{1}, {byte(one)}}, {{byte(one)}, {1}}} {
				least = min(least, unlikeBlocks(encoded(t, c, data), nought))
			}
		}
		if least != n-1 {
			t.Error(n, least)
		}
	}
	for seed, x := range codes() {
		c := code(t, x[0], x[1])
		data := filled(x[0], 2, seed)
		other := copied(data)
		other[seed%x[0]][1] ^= 1
		if apart := unlikeBlocks(encoded(t, c, data), encoded(t, c, other)); apart < x[1]-x[0]+1 {
			t.Error(x, apart)
		}
	}
}

func TestP8_9Linear(t *testing.T) {
	for seed, x := range codes() {
		c := code(t, x[0], x[1])
		a, b := filled(x[0], 3, seed), filled(x[0], 3, seed+100)
		if !same(encoded(t, c, added(a, b)), added(encoded(t, c, a), encoded(t, c, b))) {
			t.Error(x)
		}
	}
}

// added gives two lists of blocks xor one another.
func added(a, b [][]byte) [][]byte {
	out := copied(a)
	for i := range out {
		for j := range out[i] {
			out[i][j] ^= b[i][j]
		}
	}
	return out
}

func TestP8_10Pieces(t *testing.T) {
	for seed, x := range codes() {
		c := code(t, x[0], x[1])
		data := filled(x[0], 11, seed)
		whole := encoded(t, c, data)
		for _, cut := range [][2]int{{0, 0}, {0, 1}, {0, 11}, {3, 4}, {4, 11}, {11, 11}} {
			if !same(encoded(t, c, pieces(data, cut)), pieces(whole, cut)) {
				t.Error(x, cut)
			}
		}
	}
}

func pieces(blocks [][]byte, cut [2]int) [][]byte {
	var out [][]byte
	for _, block := range blocks {
		out = append(out, block[cut[0]:cut[1]])
	}
	return out
}
