package rs_test

import (
	"bytes"
	"math"
	"slices"
	"testing"

	"strongroom/api"
	"strongroom/rs"
)

// times is the field's product, long multiplication and then long division: held against the program's.
func times(a, b byte) byte {
	var product uint
	for i := range 8 {
		if b>>i&1 == 1 {
			product ^= uint(a) << i
		}
	}
	for i := 14; i >= 8; i-- {
		if product>>i&1 == 1 {
			product ^= 0x11d << (i - 8)
		}
	}
	return byte(product)
}

// turned looks for the inverse of an element.
func turned(a byte) byte {
	for x := range 256 {
		if times(a, byte(x)) == 1 {
			return byte(x)
		}
	}
	return 0
}

// rowOf gives a row of the matrix, as the chapter says it.
func rowOf(k, number int) []byte {
	row := make([]byte, k)
	for j := range row {
		if number >= k {
			row[j] = turned(byte(number ^ j))
		} else if number == j {
			row[j] = 1
		}
	}
	return row
}

// blockOf gives a block of the first K, as the chapter says it.
func blockOf(data [][]byte, number int) []byte {
	row := rowOf(len(data), number)
	block := make([]byte, len(data[0]))
	for b := range block {
		for j, d := range data {
			block[b] ^= times(row[j], d[b])
		}
	}
	return block
}

// allOf gives all N blocks of the first K.
func allOf(data [][]byte, n int) [][]byte {
	var all [][]byte
	for i := range n {
		all = append(all, blockOf(data, i))
	}
	return all
}

// chance gives numbers that hang on the seed.
func chance(seed int) func(below int) int {
	x := uint32(seed)*2654435761 + 12345
	return func(below int) int {
		x = x*1664525 + 1013904223
		return int(x>>8) % below
	}
}

// filled gives blocks of a length whose bytes hang on the seed.
func filled(count, size, seed int) [][]byte {
	next := chance(seed)
	blocks := make([][]byte, count)
	for i := range blocks {
		blocks[i] = make([]byte, size)
		for b := range blocks[i] {
			blocks[i][b] = byte(next(256))
		}
	}
	return blocks
}

// roomy gives blocks with spare room behind each and behind their list, and a function that tells whether all of it is as it was.
func roomy(blocks [][]byte) ([][]byte, func() bool) {
	var all, was [][]byte
	for _, block := range blocks {
		wide := append(slices.Clone(block), 7, 7, 7)
		was = append(was, slices.Clone(wide))
		all = append(all, wide[:len(block)])
	}
	spare := []byte{1, 2, 3}
	all = append(all, spare)
	return all[:len(blocks)], func() bool {
		for i, wide := range was {
			if len(all[i]) != len(wide)-3 || !bytes.Equal(all[i][:len(wide)], wide) {
				return false
			}
		}
		return bytes.Equal(all[len(blocks)], []byte{1, 2, 3})
	}
}

// spoil overwrites lists and their spare room.
func spoil(lists ...[]byte) {
	for _, l := range lists {
		l = l[:cap(l)]
		for i := range l {
			l[i] ^= 0xa5
		}
	}
}

func same(a, b [][]byte) bool { return slices.EqualFunc(a, b, bytes.Equal) }

func copied(blocks [][]byte) [][]byte {
	var out [][]byte
	for _, block := range blocks {
		out = append(out, slices.Clone(block))
	}
	return out
}

func code(t *testing.T, k, n int) *rs.Code {
	t.Helper()
	c, e := rs.New(k, n)
	if e != api.OK || c == nil {
		t.Fatal(k, n, e)
	}
	return c
}

// codes gives K and N of codes small and great, with K at both ends.
func codes() [][2]int {
	return [][2]int{{1, 1}, {1, 2}, {2, 2}, {1, 3}, {2, 3}, {3, 3}, {3, 10}, {7, 8}, {5, 16}, {16, 17}, {4, 31}, {8, 40}, {1, 255}, {254, 255}, {255, 255}, {20, 255}}
}

// notMade gives codes that New did not make.
func notMade() []*rs.Code { return []*rs.Code{nil, {}, new(rs.Code)} }

// outside gives numbers that no block of N has.
func outside(n int) []int {
	return []int{-1, n, n + 1, -n, 255, 256, 1 << 32, math.MaxInt, math.MinInt}
}

func TestP8_1New(t *testing.T) {
	for k := range 256 {
		for _, n := range []int{k, k + 1, 255} {
			if k < 1 || n > 255 {
				continue
			}
			if c := code(t, k, n); c.K() != k || c.N() != n {
				t.Error(k, n, c.K(), c.N())
			}
		}
	}
	wrong := [][2]int{{0, 1}, {3, 2}, {1, 256}, {0, 0}, {1, 0}, {-1, 1}, {-1, -1}, {1, -1}, {256, 256}, {255, 254}, {255, 256}, {257, 255}, {0, 255}}
	for _, n := range []int{math.MinInt, math.MaxInt, 1 << 32, 1<<32 + 1, -1 << 32} {
		wrong = append(wrong, [2]int{n, n}, [2]int{n, 255}, [2]int{1, n}, [2]int{n, 1})
	}
	for _, x := range wrong {
		if c, e := rs.New(x[0], x[1]); c != nil || e != api.ErrParams {
			t.Error(x, c != nil, e)
		}
	}
	for _, c := range notMade() {
		if c.K() != 0 || c.N() != 0 {
			t.Error(c.K(), c.N())
		}
	}
}

func TestP8_2Row(t *testing.T) {
	for _, x := range codes() {
		c := code(t, x[0], x[1])
		for i := range x[1] {
			row, e := c.Row(i)
			if e != api.OK || !bytes.Equal(row, rowOf(x[0], i)) {
				t.Fatal(x, i, row, e)
			}
			spoil(row)
			if again, e := c.Row(i); e != api.OK || !bytes.Equal(again, rowOf(x[0], i)) {
				t.Fatal("a row hangs on an answer", x, i)
			}
		}
		for _, number := range outside(x[1]) {
			if row, e := c.Row(number); len(row) != 0 || e != api.ErrArg {
				t.Error(x, number, row, e)
			}
		}
	}
	for _, c := range notMade() {
		if row, e := c.Row(0); len(row) != 0 || e != api.ErrNil {
			t.Error(row, e)
		}
		if _, e := c.Row(-1); e != api.ErrNil {
			t.Error(e)
		}
	}
}

func TestP8_3Encode(t *testing.T) {
	for seed, x := range codes() {
		c := code(t, x[0], x[1])
		for _, size := range []int{0, 1, 2, 9} {
			data, stays := roomy(filled(x[0], size, seed))
			all, e := c.Encode(data)
			if e != api.OK || !same(all, allOf(data, x[1])) {
				t.Fatal(x, size, e)
			}
			if !stays() {
				t.Error("an argument was changed", x, size)
			}
			want := copied(all)
			for i := range all {
				spoil(all[i])
				want[i] = slices.Clone(all[i])
				if !same(all, want) {
					t.Fatal("an answer's blocks hang together", x, size, i)
				}
			}
			if !stays() {
				t.Error("an answer is a part of an argument", x, size)
			}
			if again, e := c.Encode(data); e != api.OK || !same(again, allOf(data, x[1])) {
				t.Error("the code hangs on an answer", x, size)
			}
		}
	}
}

func TestP8_3Bytes(t *testing.T) {
	data := [][]byte{make([]byte, 65536), make([]byte, 65536)}
	for b := range data[0] {
		data[0][b], data[1][b] = byte(b), byte(b>>8)
	}
	all, e := code(t, 2, 4).Encode(data)
	if e != api.OK || !same(all, allOf(data, 4)) {
		t.Error("not the blocks of all pairs of bytes", e)
	}
}

func TestP8_3Refused(t *testing.T) {
	c := code(t, 3, 5)
	for _, x := range []struct {
		data [][]byte
		e    api.Errno
	}{
		{nil, api.ErrBlocks},
		{[][]byte{}, api.ErrBlocks},
		{[][]byte{{1}, {2}}, api.ErrBlocks},
		{[][]byte{{1}, {2, 3}}, api.ErrBlocks},
		{[][]byte{{1}, {2}, {3}, {4}}, api.ErrBlocks},
		{[][]byte{{1}, {2, 2}, {3}, {4}, {5}}, api.ErrBlocks},
		{[][]byte{{1}, {2}, {3, 3}}, api.ErrUneven},
		{[][]byte{{1}, {2}, nil}, api.ErrUneven},
		{[][]byte{nil, {2}, {3}}, api.ErrUneven},
		{[][]byte{{1}, {2, 2}, {3}}, api.ErrUneven},
		{[][]byte{{1, 1}, {2}, {3}}, api.ErrUneven},
		{[][]byte{nil, {}, nil}, api.OK},
	} {
		all, e := c.Encode(x.data)
		if e != x.e || e != api.OK && len(all) != 0 {
			t.Error(x.data, all, e)
		}
	}
	for _, c := range notMade() {
		for _, data := range [][][]byte{nil, {{1}}, {{1}, {1, 2}}} {
			if all, e := c.Encode(data); len(all) != 0 || e != api.ErrNil {
				t.Error(all, e)
			}
		}
	}
}

func TestP8_6Odd(t *testing.T) {
	for seed, x := range codes() {
		k, n := x[0], x[1]
		c := code(t, k, n)
		fresh := allOf(filled(k, 3, seed), n)
		all, stays := roomy(fresh)
		if odd, e := c.Odd(all); odd != n || e != api.OK {
			t.Error(x, odd, e)
		}
		if !stays() {
			t.Error("an argument was changed", x)
		}
		for _, number := range someOf(n) {
			all := copied(fresh)
			all[number][seed%3] ^= byte(1 + seed)
			want := number
			if number < k {
				want = k // no element of a row from K on is nought
			}
			if odd, e := c.Odd(all); odd != want || e != api.OK {
				t.Error(x, number, odd, e)
			}
		}
	}
}

// someOf gives the numbers up to n, of many only those at both ends.
func someOf(n int) []int {
	var some []int
	for i := range n {
		if i < 10 || i >= n-5 {
			some = append(some, i)
		}
	}
	return some
}

func TestP8_6First(t *testing.T) {
	c := code(t, 3, 9)
	fresh := allOf(filled(3, 4, 5), 9)
	for one := 3; one < 9; one++ {
		for other := one + 1; other < 9; other++ {
			all := copied(fresh)
			all[one][3] ^= 128
			all[other][0] ^= 1
			if odd, e := c.Odd(all); odd != one || e != api.OK {
				t.Error(one, other, odd, e)
			}
		}
	}
	// Two of the first K may be turned so that a block behind them goes with them yet.
	all := copied(fresh)
	all[0][1] ^= times(7, turned(rowOf(3, 3)[0]))
	all[1][1] ^= times(7, turned(rowOf(3, 3)[1]))
	if odd, e := c.Odd(all); odd != 4 || e != api.OK {
		t.Error(odd, e)
	}
}

func TestP8_6Refused(t *testing.T) {
	c := code(t, 2, 3)
	for _, x := range []struct {
		all [][]byte
		odd int
		e   api.Errno
	}{
		{nil, 0, api.ErrBlocks},
		{[][]byte{{1}, {1}}, 0, api.ErrBlocks},
		{[][]byte{{1}, {1}, {0x7a}, {1}}, 0, api.ErrBlocks},
		{[][]byte{{1}, {1, 2}, {0x7a}, {1}}, 0, api.ErrBlocks},
		{[][]byte{{1}, {1}, {0x7a, 0}}, 0, api.ErrUneven},
		{[][]byte{{1}, {1}, nil}, 0, api.ErrUneven},
		{[][]byte{{1, 0}, {1}, {0x7a}}, 0, api.ErrUneven},
		{[][]byte{{1}, {1}, {0x7a}}, 3, api.OK},
		{[][]byte{{1}, {1}, {0x7b}}, 2, api.OK},
		{[][]byte{nil, {}, nil}, 3, api.OK},
	} {
		if odd, e := c.Odd(x.all); odd != x.odd || e != x.e {
			t.Error(x.all, odd, e)
		}
	}
	for _, c := range notMade() {
		for _, all := range [][][]byte{nil, {{1}}} {
			if odd, e := c.Odd(all); odd != 0 || e != api.ErrNil {
				t.Error(odd, e)
			}
		}
	}
}

func TestExamples(t *testing.T) {
	c := code(t, 1, 3)
	for i, want := range []byte{1, 1, 0x8e} {
		if row, e := c.Row(i); e != api.OK || !bytes.Equal(row, []byte{want}) {
			t.Error(i, row, e)
		}
	}
	if all, e := c.Encode([][]byte{{7, 8}}); e != api.OK || !same(all, [][]byte{{7, 8}, {7, 8}, {0x8d, 4}}) {
		t.Error(all, e)
	}
	c = code(t, 2, 3)
	for i, want := range [][]byte{{1, 0}, {0, 1}, {0x8e, 0xf4}} {
		if row, e := c.Row(i); e != api.OK || !bytes.Equal(row, want) {
			t.Error(i, row, e)
		}
	}
	if all, e := c.Encode([][]byte{{1}, {1}}); e != api.OK || !same(all, [][]byte{{1}, {1}, {0x7a}}) {
		t.Error(all, e)
	}
	if data, e := c.Decode([]int{2, 0}, [][]byte{{0x7a}, {1}}); e != api.OK || !same(data, [][]byte{{1}, {1}}) {
		t.Error(data, e)
	}
	if odd, e := code(t, 2, 2).Odd([][]byte{{9}, {1}}); odd != 2 || e != api.OK {
		t.Error("there is nothing to hold it against", odd, e)
	}
}
