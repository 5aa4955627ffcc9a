package recipe_test

import (
	"bytes"
	"fmt"
	"math"
	"math/rand/v2"
	"slices"
	"sync"
	"testing"

	"strongroom/api"
	"strongroom/cut"
	"strongroom/recipe"
	"strongroom/rs"
	"strongroom/share"
	"strongroom/ueb"
)

// filled gives n bytes that look like no rule.
func filled(n, seed int) []byte {
	b := make([]byte, n)
	r := rand.New(rand.NewPCG(uint64(seed), 16))
	for i := range b {
		b[i] = byte(r.Uint32())
	}
	return b
}

// roomy gives a list with spare room, and tells later whether it and its room are as they were.
func roomy(list []byte) ([]byte, func() bool) {
	all := append(bytes.Clone(list), 1, 2, 3, 4, 5)
	was := bytes.Clone(all)
	return all[:len(list)], func() bool { return bytes.Equal(all, was) }
}

// spoil overwrites a list and its spare room.
func spoil(l []byte) {
	l = l[:cap(l)]
	for i := range l {
		l[i] ^= 0xa5
	}
}

// one is a file's size and its parameters.
type one struct {
	size int
	p    api.Params
}

func (o one) String() string {
	return fmt.Sprintf("%d bytes, K %d, N %d, Seg %d, %d bytes secret", o.size, o.p.K, o.p.N, o.p.Seg, len(o.p.Secret))
}

func params(k, n, seg int) api.Params { return api.Params{K: k, N: n, Seg: seg} }

// small are files with few bytes and shares: what is done with them may be done often.
func small() []one {
	return []one{
		{33, params(1, 1, 33)}, {33, params(1, 1, 1)}, {60, params(1, 1, 50)}, {100, params(1, 2, 30)}, {50, params(2, 4, 10)}, {100, params(3, 5, 10)}, {36, params(3, 5, 10)}, {37, params(3, 5, 12)}, {45, params(7, 9, 14)},
		{33, params(5, 5, 65536)}, {33, params(4, 6, 65536)}, {64, params(2, 3, 32)}, {65, params(2, 3, 32)}, {63, params(2, 3, 32)}, {256, params(3, 4, 16)},
	}
}

// taken are files that have shares, at the edges of what may be and between.
func taken() []one {
	all := append(small(),
		one{1000, params(3, 10, 64)}, one{1000, params(3, 10, 66)}, one{512, params(1, 1, 1)}, one{6144, params(3, 5, 10)}, one{33, params(255, 255, 1)}, one{300, params(255, 255, 255)}, one{200, params(1, 255, 20)}, one{1000, params(128, 255, 300)},
		one{65787, params(254, 255, 65536)}, one{65786, params(254, 255, 65536)}, one{131073, params(2, 3, 65536)}, one{333, params(4, 129, 40)}, one{333, params(4, 128, 40)}, one{65537, params(1, 3, 65536)}, one{65536, params(1, 3, 65536)}, one{2049, params(16, 20, 128)})
	for i := range all {
		all[i].p.Happy = i*7 - 20
		all[i].p.Secret = filled([]int{0, 1, 16, 63, 64}[i%5], i)
	}
	return all
}

// wantNone asks that all four calls refuse a file, and tell nothing else.
func wantNone(t *testing.T, what any, file []byte, p api.Params, want api.Errno) {
	t.Helper()
	if k, e := recipe.Key(file, p); e != want || k != (api.Key{}) {
		t.Errorf("%v: Key: %x, %d instead of %d", what, k, e, want)
	}
	if c, e := recipe.Cap(file, p); e != want || c != (api.Read{}) {
		t.Errorf("%v: Cap: %v, %d instead of %d", what, c, e, want)
	}
	if m, e := recipe.Make(file, p); e != want || !sameMade(m, api.Made{}) {
		t.Errorf("%v: Make: %d shares, %d instead of %d", what, len(m.Shares), e, want)
	}
	for _, number := range []int{0, -1, p.N - 1, p.N, math.MinInt, math.MaxInt} {
		if b, e := recipe.Share(file, p, number); e != want || len(b) != 0 {
			t.Errorf("%v: Share %d: %d bytes, %d instead of %d", what, number, len(b), e, want)
		}
	}
}

// wrongParams are parameters that may not be.
func wrongParams() []api.Params {
	secret := func(n int) api.Params { return api.Params{K: 1, N: 1, Seg: 66, Secret: make([]byte, n)} }
	return []api.Params{
		{}, params(0, 10, 66), params(-1, 10, 66), params(3, 2, 66), params(11, 10, 66), params(3, 0, 66), params(0, 0, 66), params(-5, -3, 66), params(1, 256, 66), params(256, 256, 66),
		params(3, 10, 0), params(3, 10, -1), params(3, 10, 65537), params(3, 10, 65538), params(1, 1, math.MaxInt), params(1, 1, math.MinInt), params(math.MaxInt, math.MaxInt, 66), params(1, math.MaxInt, 66),
		params(math.MinInt, math.MinInt, math.MinInt), params(math.MinInt, 1, 66), params(math.MinInt, math.MaxInt, 66), secret(65), secret(1000),
	}
}

func TestP16_1Examples(t *testing.T) {
	wantNone(t, "example 1", filled(32, 1), params(3, 10, 66), api.ErrLiteral)
	wantNone(t, "example 2", filled(33, 1), params(3, 2, 66), api.ErrParams)
	wantNone(t, "example 4", filled(1000, 1), params(1, 1, 1), api.ErrParams)
	if b, e := recipe.Share(filled(1000, 1), params(3, 10, 64), 10); e != api.ErrArg || len(b) != 0 {
		t.Errorf("example 5: %d bytes, %d", len(b), e)
	}
}

func TestP16_1WrongParams(t *testing.T) {
	for _, p := range wrongParams() {
		// Ahead of all else: of the file's size, and of the share's number.
		for _, size := range []int{0, 1, 32, 33, 1000, api.MaxFile + 1} {
			wantNone(t, one{size, p}, make([]byte, size), p, api.ErrParams)
		}
		wantNone(t, p, nil, p, api.ErrParams)
	}
}

func TestP16_1Size(t *testing.T) {
	big := make([]byte, api.MaxFile+2)
	for _, p := range []api.Params{params(1, 1, 65536), params(3, 10, 65536), params(255, 255, 65536), params(1, 1, 1), params(3, 10, 66)} { // with the last two there would be too many segments as well
		for _, size := range []int{api.MaxFile + 1, api.MaxFile + 2} {
			wantNone(t, one{size, p}, big[:size], p, api.ErrSize)
		}
	}
	for _, size := range []int{0, 1, 31, 32} {
		for _, p := range []api.Params{params(1, 1, 1), params(3, 10, 66), params(255, 255, 65536), {K: 1, N: 2, Seg: 3, Happy: -9, Secret: make([]byte, 64)}} {
			wantNone(t, one{size, p}, filled(size, 1), p, api.ErrLiteral)
		}
	}
	wantNone(t, "no file", nil, params(1, 1, 1), api.ErrLiteral)
	if _, e := recipe.Make(filled(33, 1), params(1, 1, 1)); e != api.OK {
		t.Errorf("33 bytes: %d", e)
	}
}

func TestP16_1Segments(t *testing.T) {
	for _, o := range []one{{513, params(1, 1, 1)}, {1025, params(2, 3, 1)}, {6145, params(3, 5, 10)}, {api.MaxFile, params(1, 1, 32767)}, {api.MaxFile, params(1, 1, 1)}} {
		wantNone(t, o, make([]byte, o.size), o.p, api.ErrParams)
	}
	for _, o := range []one{{512, params(1, 1, 1)}, {1024, params(2, 3, 1)}, {6144, params(3, 5, 10)}} {
		if m, e := recipe.Make(make([]byte, o.size), o.p); e != api.OK || len(m.Shares) != o.p.N {
			t.Errorf("%v: %d", o, e)
		}
	}
}

func TestP16_1Number(t *testing.T) {
	for _, o := range taken() {
		for _, number := range []int{-1, o.p.N, o.p.N + 1, 256, -o.p.N, math.MinInt, math.MaxInt} {
			if b, e := recipe.Share(filled(o.size, 1), o.p, number); e != api.ErrArg || len(b) != 0 {
				t.Errorf("%v: share %d: %d bytes, %d", o, number, len(b), e)
			}
		}
	}
}

// someNumbers gives all numbers of shares, if they are few; else some.
func someNumbers(n int) []int {
	var numbers []int
	for i := range n {
		if n <= 10 || i < 2 || i > n-3 {
			numbers = append(numbers, i)
		}
	}
	return numbers
}

func TestP16_2Made(t *testing.T) {
	for i, o := range taken() {
		file := filled(o.size, i)
		want := madeOf(file, o.p)
		if got, e := recipe.Make(file, o.p); e != api.OK || !sameMade(got, want) {
			t.Errorf("%v: Make: read %v instead of %v, %d shares, %d", o, got.Read, want.Read, len(got.Shares), e)
		}
		if got, e := recipe.Key(file, o.p); e != api.OK || got != want.Read.Key {
			t.Errorf("%v: Key: %x, %d", o, got, e)
		}
		if got, e := recipe.Cap(file, o.p); e != api.OK || got != want.Read {
			t.Errorf("%v: Cap: %v, %d", o, got, e)
		}
		for _, number := range someNumbers(o.p.N) {
			if got, e := recipe.Share(file, o.p, number); e != api.OK || !bytes.Equal(got, want.Shares[number]) {
				t.Errorf("%v: Share %d: %d bytes, %d", o, number, len(got), e)
			}
		}
	}
}

func TestP16_2AllSizes(t *testing.T) {
	for size := 33; size <= 140; size++ {
		for _, p := range []api.Params{params(1, 2, 16), params(3, 5, 17), params(4, 4, 100)} {
			file := filled(size, size)
			if got, e := recipe.Make(file, p); e != api.OK || !sameMade(got, madeOf(file, p)) {
				t.Errorf("%v: %v, %d", one{size, p}, got.Read, e)
			}
		}
	}
}

func TestP16_2Drawn(t *testing.T) {
	r := rand.New(rand.NewPCG(16, 2))
	for i := range 60 {
		n := 1 + r.IntN(12)
		p := api.Params{K: 1 + r.IntN(n), N: n, Seg: 1 + r.IntN(300), Happy: r.IntN(99), Secret: filled(r.IntN(65), i)}
		file := filled(33+r.IntN(p.Seg*4+200), i)
		if len(file) > 512*p.Seg {
			continue
		}
		if got, e := recipe.Make(file, p); e != api.OK || !sameMade(got, madeOf(file, p)) {
			t.Errorf("%v: %v, %d", one{len(file), p}, got.Read, e)
		}
	}
}

func TestP16_2GreatestFile(t *testing.T) {
	file := filled(api.MaxFile, 3)
	p := params(1, 1, 32768)
	want := madeOf(file, p)
	got, e := recipe.Make(file, p)
	if e != api.OK || !sameMade(got, want) {
		t.Fatalf("%v, %d", got.Read, e)
	}
	if back, e := recipe.Open(got.Read, 0, applied(want.Read.Key, file)); e != api.OK || !bytes.Equal(back, file) {
		t.Errorf("Open: %d bytes, %d", len(back), e)
	}
}

func TestP16_2Noughts(t *testing.T) {
	for _, p := range []api.Params{params(1, 3, 40), params(2, 4, 40)} {
		file := make([]byte, 100)
		if got, e := recipe.Make(file, p); e != api.OK || !sameMade(got, madeOf(file, p)) {
			t.Errorf("%v, %d", got.Read, e)
		}
	}
}

// goodFours are K, N, Seg and Size of shapes, badFours of none.
func goodFours() [][4]int {
	return [][4]int{{3, 10, 66, 1000}, {1, 1, 1, 33}, {1, 1, 1, 512}, {255, 255, 255, 33}, {255, 255, 65535, 1 << 24}, {1, 255, 65536, 1 << 24}, {3, 5, 65538, 100}, {3, 5, 12, 6144}, {254, 255, 65786, 65787}}
}

func badFours() [][4]int {
	return [][4]int{
		{}, {3, 10, 64, 1000}, {0, 10, 66, 1000}, {11, 10, 66, 1000}, {3, 256, 66, 1000}, {3, 0, 66, 1000}, {3, 10, 0, 1000}, {3, 10, 66, 32}, {3, 10, 66, 0}, {3, 10, 66, -1000}, {3, 10, -66, 1000}, {-3, 10, 66, 1000}, {-3, -10, -66, -1000},
		{3, 5, 12, 6145}, {3, 5, 65541, 100}, {1, 1, 65537, 100}, {1, 1, 65536, 1<<24 + 1}, {1, 1, 1, 513}, {256, 256, 256, 300},
		{math.MaxInt, math.MaxInt, math.MaxInt, math.MaxInt}, {math.MinInt, math.MinInt, math.MinInt, math.MinInt}, {3, 10, math.MaxInt, 1000}, {3, 10, 66, math.MaxInt}, {3, 10, 66, math.MinInt}, {1, math.MaxInt, 66, 1000},
	}
}

// reading gives a read capability of any key and digest.
func reading(four [4]int, seed int) api.Read {
	return api.Read{Key: api.Key(filled(16, seed)), Ueb: api.Digest(filled(32, seed+1)), K: four[0], N: four[1], Seg: four[2], Size: four[3]}
}

func TestP16_3Weaken(t *testing.T) {
	for i, four := range goodFours() {
		c := reading(four, i)
		want := api.Verify{Index: indexOf(c.Key), Ueb: c.Ueb, K: c.K, N: c.N, Seg: c.Seg, Size: c.Size}
		if got, e := recipe.Weaken(c); e != api.OK || got != want {
			t.Errorf("%v: %v, %d", four, got, e)
		}
	}
	for i, four := range badFours() {
		if got, e := recipe.Weaken(reading(four, i)); e != api.ErrCap || got != (api.Verify{}) {
			t.Errorf("%v: %v, %d", four, got, e)
		}
	}
	if got, e := recipe.Weaken(api.Read{K: 1, N: 1, Seg: 33, Size: 33}); e != api.OK || got.Index != indexOf(api.Key{}) {
		t.Errorf("a key of noughts: %v, %d", got, e)
	}
}

func TestP16_4Bind(t *testing.T) {
	for i, o := range taken() {
		ciphertext := filled(o.size, i+100)
		seg := shapedSeg(o.p)
		want, shares := boundOf(ciphertext, o.p.K, o.p.N, seg)
		if got, list, e := recipe.Bind(ciphertext, o.p.K, o.p.N, seg); e != api.OK || got != want || !sameLists(list, shares) {
			t.Errorf("%v: %v, %d shares, %d", o, got, len(list), e)
		}
	}
}

func TestP16_4OfAFile(t *testing.T) {
	for i, o := range taken() {
		file := filled(o.size, i)
		m, _ := recipe.Make(file, o.p)
		ciphertext := applied(m.Read.Key, file)
		if u, list, e := recipe.Bind(ciphertext, m.Ueb.K, m.Ueb.N, m.Ueb.Seg); e != api.OK || u != m.Ueb || !sameLists(list, m.Shares) {
			t.Errorf("%v: %v, %d shares, %d", o, u, len(list), e)
		}
	}
}

func TestP16_4Refused(t *testing.T) {
	for _, four := range badFours() {
		size := min(max(0, four[3]), api.MaxFile+1)
		if four[3] < 0 || four[3] > size {
			continue
		}
		if u, list, e := recipe.Bind(make([]byte, size), four[0], four[1], four[2]); e != api.ErrShape || u != (api.Ueb{}) || len(list) != 0 {
			t.Errorf("%v: %v, %d shares, %d", four, u, len(list), e)
		}
	}
	if _, _, e := recipe.Bind(nil, 1, 1, 1); e != api.ErrShape {
		t.Errorf("no ciphertext: %d", e)
	}
}

// wantNotRemade asks that a ciphertext be refused.
func wantNotRemade(t *testing.T, what any, ciphertext []byte, u api.Ueb, want api.Errno) {
	t.Helper()
	if list, e := recipe.Remake(ciphertext, u); e != want || len(list) != 0 {
		t.Errorf("%v: %d shares, %d instead of %d", what, len(list), e, want)
	}
}

func TestP16_5Remake(t *testing.T) {
	for i, o := range taken() {
		ciphertext := filled(o.size, i+200)
		u, shares := boundOf(ciphertext, o.p.K, o.p.N, shapedSeg(o.p))
		if list, e := recipe.Remake(ciphertext, u); e != api.OK || !sameLists(list, shares) {
			t.Errorf("%v: %d shares, %d", o, len(list), e)
		}
	}
}

func TestP16_5OtherBytes(t *testing.T) {
	for i, o := range small() {
		ciphertext := filled(o.size, i)
		u, _ := boundOf(ciphertext, o.p.K, o.p.N, shapedSeg(o.p))
		for at := range ciphertext {
			turned := bytes.Clone(ciphertext)
			turned[at] ^= 1 << (at % 8)
			wantNotRemade(t, fmt.Sprint(o, ", byte ", at), turned, u, api.ErrMade)
		}
		wantNotRemade(t, "a byte less", ciphertext[1:], u, api.ErrMade)
		wantNotRemade(t, "a byte less", ciphertext[:o.size-1], u, api.ErrMade)
		wantNotRemade(t, "a byte more", append(bytes.Clone(ciphertext), 0), u, api.ErrMade)
		wantNotRemade(t, "no bytes", nil, u, api.ErrMade)
		wantNotRemade(t, "too many", make([]byte, api.MaxFile+1), u, api.ErrMade)
	}
}

func TestP16_5OtherUeb(t *testing.T) {
	ciphertext := filled(100, 5)
	u, _ := boundOf(ciphertext, 3, 5, 12)
	for i := range 32 {
		other := u
		other.Shares[i] ^= 1
		wantNotRemade(t, "another root over the shares", ciphertext, other, api.ErrMade)
		other = u
		other.Segs[i] ^= 128
		wantNotRemade(t, "another root over the segments", ciphertext, other, api.ErrMade)
	}
	for _, c := range []struct {
		four [4]int
		want api.Errno
	}{
		{[4]int{3, 6, 12, 100}, api.ErrMade}, {[4]int{2, 5, 12, 100}, api.ErrMade}, {[4]int{3, 5, 15, 100}, api.ErrMade}, {[4]int{3, 5, 12, 101}, api.ErrMade}, {[4]int{3, 5, 12, 99}, api.ErrMade}, {[4]int{3, 5, 12, 6144}, api.ErrMade},
		{[4]int{3, 5, 13, 100}, api.ErrUeb}, {[4]int{6, 5, 12, 100}, api.ErrUeb}, {[4]int{3, 5, 12, 6145}, api.ErrUeb}, {[4]int{3, 5, 12, 32}, api.ErrUeb},
	} {
		other := u
		other.K, other.N, other.Seg, other.Size = c.four[0], c.four[1], c.four[2], c.four[3]
		wantNotRemade(t, c.four, ciphertext, other, c.want)
	}
	swapped := u
	swapped.Shares, swapped.Segs = u.Segs, u.Shares
	wantNotRemade(t, "the roots exchanged", ciphertext, swapped, api.ErrMade)
}

func TestP16_5MayNotBe(t *testing.T) {
	for _, four := range badFours() {
		u := api.Ueb{K: four[0], N: four[1], Seg: four[2], Size: four[3], Shares: api.Digest(filled(32, 1))}
		// Ahead of the number of bytes.
		for _, size := range []int{0, 33, 1000, min(max(0, four[3]), 7000)} {
			wantNotRemade(t, four, make([]byte, size), u, api.ErrUeb)
		}
	}
}

func TestP16_6Stretches(t *testing.T) {
	file := filled(70, 6)
	for _, four := range [][4]int{{1, 1, 33, 70}, {3, 10, 66, 70}} {
		c := reading(four, 9)
		ciphertext := applied(c.Key, file)
		for at := 0; at <= len(file); at++ {
			for end := at; end <= len(file); end++ {
				if got, e := recipe.Open(c, at, ciphertext[at:end]); e != api.OK || !bytes.Equal(got, file[at:end]) {
					t.Errorf("%v: from %d to %d: %x, %d", four, at, end, got, e)
				}
			}
		}
		if got, e := recipe.Open(c, 70, nil); e != api.OK || len(got) != 0 {
			t.Errorf("no bytes at the end: %x, %d", got, e)
		}
	}
}

func TestP16_6Refused(t *testing.T) {
	c := reading([4]int{3, 10, 66, 70}, 9)
	none := func(c api.Read, at, size int, want api.Errno) {
		t.Helper()
		if got, e := recipe.Open(c, at, make([]byte, size)); e != want || len(got) != 0 {
			t.Errorf("%d bytes at %d of %d: %d bytes, %d instead of %d", size, at, c.Size, len(got), e, want)
		}
	}
	for size := range 75 {
		for _, at := range []int{-1, -70, math.MinInt, math.MinInt + 69, 71 - size, 71, 72, math.MaxInt, math.MaxInt - 1, math.MaxInt - size} {
			if at < 0 || at+size > 70 || at > 70 {
				none(c, at, size, api.ErrArg)
			}
		}
	}
	none(c, 0, api.MaxFile+1, api.ErrArg)
	for i, four := range badFours() {
		// Ahead of a place that is wrong as well.
		for _, at := range []int{0, -1, 1 << 30, math.MaxInt, math.MinInt} {
			none(reading(four, i), at, 0, api.ErrCap)
			none(reading(four, i), at, 40, api.ErrCap)
		}
	}
}

func TestP16_6AnyUeb(t *testing.T) {
	file := filled(200, 7)
	m, _ := recipe.Make(file, params(2, 3, 50))
	c := m.Read
	c.Ueb = api.Digest{}
	if got, e := recipe.Open(c, 0, applied(c.Key, file)); e != api.OK || !bytes.Equal(got, file) {
		t.Errorf("the digest is not looked at: %d bytes, %d", len(got), e)
	}
	c.Key[3] ^= 1
	if got, e := recipe.Open(c, 0, applied(m.Read.Key, file)); e != api.OK || bytes.Equal(got, file) {
		t.Errorf("another key: %d", e)
	}
}

func TestP16_7OneMade(t *testing.T) {
	for i, o := range taken() {
		file := filled(o.size, i)
		m, e := recipe.Make(file, o.p)
		if e != api.OK {
			t.Fatalf("%v: %d", o, e)
		}
		for _, happy := range []int{math.MinInt, -1, 0, 1, o.p.N, o.p.N + 1, math.MaxInt} {
			p := o.p
			p.Happy = happy
			if again, e := recipe.Make(file, p); e != api.OK || !sameMade(again, m) {
				t.Errorf("%v, Happy %d: another Made, %d", o, happy, e)
			}
			if o.p.N > 20 {
				break
			}
		}
		s, _ := cut.Shape(o.p, o.size)
		four := [4]int{s.K, s.N, s.Seg, s.Size}
		for _, got := range [][4]int{{m.Read.K, m.Read.N, m.Read.Seg, m.Read.Size}, {m.Verify.K, m.Verify.N, m.Verify.Seg, m.Verify.Size}, {m.Ueb.K, m.Ueb.N, m.Ueb.Seg, m.Ueb.Size}} {
			if got != four {
				t.Errorf("%v: %v instead of %v", o, got, four)
			}
		}
		if d, e := ueb.Digest(m.Ueb); e != api.OK || m.Read.Ueb != d || m.Verify.Ueb != d {
			t.Errorf("%v: another digest of the Ueb, %d", o, e)
		}
		if v, e := recipe.Weaken(m.Read); e != api.OK || v != m.Verify {
			t.Errorf("%v: Weaken: %v, %d", o, v, e)
		}
	}
}

func TestP16_7Example(t *testing.T) {
	m, e := recipe.Make(filled(1000, 1), params(3, 10, 64))
	if e != api.OK || m.Ueb.Seg != 66 || len(m.Shares) != 10 {
		t.Fatalf("%v, %d", m.Ueb, e)
	}
	for i, b := range m.Shares {
		s, _, e := share.Open(b)
		if e != api.OK || s.Front.Number != i || len(s.Data) != 16 || len(s.Data[0]) != 22 || len(s.Data[14]) != 22 || len(s.Data[15]) != 4 {
			t.Errorf("share %d: %d blocks, %d", i, len(s.Data), e)
		}
	}
}

// ciphertextOf puts a ciphertext together out of K shares' blocks.
func ciphertextOf(t *testing.T, u api.Ueb, shares [][]byte, numbers []int) []byte {
	t.Helper()
	s, _ := cut.Again(u.K, u.N, u.Seg, u.Size)
	code, _ := rs.New(u.K, u.N)
	var opened []api.Share
	for _, i := range numbers {
		x, _, e := share.Open(shares[i])
		if e != api.OK || x.Front.Number != i {
			t.Fatalf("share %d: %d", i, e)
		}
		opened = append(opened, x)
	}
	var whole []byte
	for j := range s.Segs {
		var blocks [][]byte
		for _, x := range opened {
			blocks = append(blocks, x.Data[j])
		}
		data, e := code.Decode(numbers, blocks)
		if e != api.OK {
			t.Fatalf("segment %d: %d", j, e)
		}
		size, _ := cut.SegSize(s, j)
		segment, e := cut.Join(data, size)
		if e != api.OK {
			t.Fatalf("segment %d: %d", j, e)
		}
		whole = append(whole, segment...)
	}
	return whole
}

// wantBack asks that K shares bring the file and all shares back.
func wantBack(t *testing.T, o one, file []byte, m api.Made, numbers []int) {
	t.Helper()
	ciphertext := ciphertextOf(t, m.Ueb, m.Shares, numbers)
	if got, e := recipe.Open(m.Read, 0, ciphertext); e != api.OK || !bytes.Equal(got, file) {
		t.Errorf("%v, shares %v: Open: %d bytes, %d", o, numbers, len(got), e)
	}
	if got, e := recipe.Remake(ciphertext, m.Ueb); e != api.OK || !sameLists(got, m.Shares) {
		t.Errorf("%v, shares %v: Remake: %d shares, %d", o, numbers, len(got), e)
	}
}

func TestP16_8AnyK(t *testing.T) {
	for i, o := range small() {
		file := filled(o.size, i)
		m, e := recipe.Make(file, o.p)
		if e != api.OK {
			t.Fatalf("%v: %d", o, e)
		}
		for set := range 1 << o.p.N {
			var numbers []int
			for number := range o.p.N {
				if set>>number&1 == 1 {
					numbers = append(numbers, number)
				}
			}
			if len(numbers) == o.p.K {
				wantBack(t, o, file, m, numbers)
			}
		}
	}
}

func TestP16_8SomeK(t *testing.T) {
	r := rand.New(rand.NewPCG(16, 8))
	for i, o := range taken() {
		file := filled(o.size, i)
		m, e := recipe.Make(file, o.p)
		if e != api.OK {
			t.Fatalf("%v: %d", o, e)
		}
		last := make([]int, o.p.K)
		for j := range last {
			last[j] = o.p.N - o.p.K + j
		}
		wantBack(t, o, file, m, last)
		wantBack(t, o, file, m, r.Perm(o.p.N)[:o.p.K])
	}
}

func TestP16_9Sound(t *testing.T) {
	for i, o := range taken() {
		file := filled(o.size, i)
		m, e := recipe.Make(file, o.p)
		if e != api.OK || len(m.Shares) != o.p.N {
			t.Fatalf("%v: %d", o, e)
		}
		for number, b := range m.Shares {
			s, at, e := share.Open(b)
			if e != api.OK || at != 0 || s.Front.Number != number || s.Front.Ueb != m.Ueb || !share.Sound(s) {
				t.Errorf("%v: share %d is not sound: %d at %d", o, number, e, at)
			}
		}
	}
}

func TestP16_10Unlike(t *testing.T) {
	secret := func(p api.Params, s string) api.Params {
		p.Secret = []byte(s)
		return p
	}
	file := filled(40, 1)
	p := params(3, 10, 66)
	seenBytes, seenKeys := map[string]int{}, map[api.Key]int{}
	for i, c := range []struct {
		file []byte
		p    api.Params
	}{
		{file, p}, {file, params(2, 10, 66)}, {file, params(3, 11, 66)}, {file, params(3, 10, 67)}, {file, params(3, 10, 65536)}, {file, params(6, 10, 66)}, {file, params(10, 10, 66)}, {file, params(3, 3, 66)}, {file, params(1, 255, 66)},
		{file, secret(p, "s")}, {file, secret(p, "t")}, {file, secret(p, "ss")}, {file, secret(p, "\x00")}, {file, secret(p, "\x00\x00")}, {file, secret(p, string(file))}, {file, secret(p, string(make([]byte, 64)))},
		{filled(40, 2), p}, {filled(41, 1), p}, {file[:39], p}, {file[1:], p}, {append(slices.Clone(file), 0), p}, {append([]byte{0}, file...), p},
		// What stands in the file's beginning or in the secret's end, or in the parameters.
		{file[1:], secret(p, string(file[:1]))}, {file[6:], secret(p, string(file[:6]))}, {append([]byte("s"), file...), p}, {append([]byte{3, 10, 0, 0, 0, 66}, file...), p}, {file, secret(p, "\x03\x0a\x00\x00\x00\x42")},
	} {
		key, e := recipe.Key(c.file, c.p)
		b := keyBytes(c.file, c.p)
		if e != api.OK || key != keyOf(c.file, c.p) {
			t.Errorf("%d: the key is not of its bytes: %x, %d", i, key, e)
		}
		if before, there := seenBytes[string(b)]; there {
			t.Errorf("%d has the bytes of %d", i, before)
		}
		if before, there := seenKeys[key]; there {
			t.Errorf("%d has the key of %d", i, before)
		}
		seenBytes[string(b)], seenKeys[key] = i, i
	}
}

func TestP16_10ShapesSeg(t *testing.T) {
	file := filled(200, 1)
	want, _ := recipe.Make(file, params(3, 10, 66))
	for _, seg := range []int{64, 65, 66} {
		if m, e := recipe.Make(file, params(3, 10, seg)); e != api.OK || !sameMade(m, want) {
			t.Errorf("Seg %d: another Made, %d", seg, e)
		}
	}
	for _, seg := range []int{63, 67} {
		if m, e := recipe.Make(file, params(3, 10, seg)); e != api.OK || m.Read.Key == want.Read.Key || m.Verify.Index == want.Verify.Index {
			t.Errorf("Seg %d: the same key, %d", seg, e)
		}
	}
}

func TestR3Arguments(t *testing.T) {
	for i, o := range small() {
		file, fileKept := roomy(filled(o.size, i))
		secret, secretKept := roomy(filled(i, i))
		p := o.p
		p.Secret = secret
		want := madeOf(file, p)
		m, _ := recipe.Make(file, p)
		recipe.Key(file, p)
		recipe.Cap(file, p)
		b, _ := recipe.Share(file, p, 0)
		ciphertext, cipherKept := roomy(applied(m.Read.Key, file))
		_, bound, _ := recipe.Bind(ciphertext, m.Ueb.K, m.Ueb.N, m.Ueb.Seg)
		remade, _ := recipe.Remake(ciphertext, m.Ueb)
		opened, _ := recipe.Open(m.Read, 0, ciphertext)
		whole := bytes.Clone(file)
		if !fileKept() || !secretKept() || !cipherKept() {
			t.Errorf("%v: an argument, or its spare room, was changed", o)
		}
		spoil(file)
		spoil(secret)
		spoil(ciphertext)
		if !sameMade(m, want) || !bytes.Equal(b, want.Shares[0]) || !sameLists(bound, want.Shares) || !sameLists(remade, want.Shares) || !bytes.Equal(opened, whole) {
			t.Errorf("%v: an answer has a part in an argument", o)
		}
	}
}

// wantApart asks that no two lists have memory in common, the spare room too.
func wantApart(t *testing.T, what any, lists [][]byte) {
	t.Helper()
	was := slices.Clone(lists)
	for i := range was {
		was[i] = bytes.Clone(lists[i])
	}
	for i, l := range lists {
		spoil(l)
		if bytes.Equal(l, was[i]) {
			t.Errorf("%v: list %d has no bytes", what, i)
		}
		for j := i + 1; j < len(lists); j++ {
			if !bytes.Equal(lists[j], was[j]) {
				t.Errorf("%v: list %d has a part in list %d", what, i, j)
			}
		}
	}
}

func TestR3Answers(t *testing.T) {
	for i, o := range small() {
		file := filled(o.size, i)
		want := madeOf(file, o.p)
		m, _ := recipe.Make(file, o.p)
		again, _ := recipe.Make(file, o.p)
		ciphertext := applied(m.Read.Key, file)
		_, bound, _ := recipe.Bind(ciphertext, m.Ueb.K, m.Ueb.N, m.Ueb.Seg)
		remade, _ := recipe.Remake(ciphertext, m.Ueb)
		single, _ := recipe.Share(file, o.p, 0)
		twin, _ := recipe.Share(file, o.p, 0)
		opened, _ := recipe.Open(m.Read, 0, ciphertext)
		reopened, _ := recipe.Open(m.Read, 0, ciphertext)
		wantApart(t, o, slices.Concat(m.Shares, again.Shares, bound, remade, [][]byte{single, twin, opened, reopened}))
		if third, e := recipe.Make(file, o.p); e != api.OK || !sameMade(third, want) {
			t.Errorf("%v: something was kept, %d", o, e)
		}
	}
}

func TestR4Goroutines(t *testing.T) {
	file := filled(1000, 4)
	p := params(3, 10, 64)
	want := madeOf(file, p)
	var all sync.WaitGroup
	for range 8 {
		all.Go(func() {
			if m, e := recipe.Make(file, p); e != api.OK || !sameMade(m, want) {
				t.Errorf("%v, %d", m.Read, e)
			}
		})
	}
	all.Wait()
}

// Whatever it is given, each call ends, and beside an error tells nothing.
func TestR1Drawn(t *testing.T) {
	r := rand.New(rand.NewPCG(16, 1))
	odd := []int{math.MinInt, math.MinInt + 1, -256, -1, 0, 1, 2, 3, 5, 12, 33, 66, 100, 254, 255, 256, 65535, 65536, 65537, 65538, 1 << 24, 1<<24 + 1, 1 << 31, 1 << 32, 1 << 62, math.MaxInt - 1, math.MaxInt}
	draw := func() int { return odd[r.IntN(len(odd))] }
	for i := range 4000 {
		file := filled([]int{0, 1, 32, 33, 66, 100}[r.IntN(6)], i)
		p := api.Params{K: draw(), N: draw(), Seg: draw(), Happy: draw(), Secret: filled(r.IntN(67), i)}
		if r.IntN(2) == 0 {
			p.K, p.N = 1+r.IntN(4), 1+r.IntN(6)
		}
		m, e := recipe.Make(file, p)
		if e != api.OK && !sameMade(m, api.Made{}) || e == api.OK && len(m.Shares) != p.N {
			t.Errorf("%v: Make: %d shares, %d", one{len(file), p}, len(m.Shares), e)
		}
		number := draw()
		if b, f := recipe.Share(file, p, number); (f == api.OK) != (len(b) > 0) || e != api.OK && f != e {
			t.Errorf("%v: Share %d: %d bytes, %d", one{len(file), p}, number, len(b), f)
		}
		four := [4]int{p.K, p.N, draw(), draw()}
		if r.IntN(2) == 0 {
			four[3] = len(file)
		}
		if u, list, f := recipe.Bind(file, four[0], four[1], four[2]); f != api.OK && (u != api.Ueb{} || len(list) > 0) {
			t.Errorf("%v: Bind: %v, %d", four, u, f)
		}
		u := api.Ueb{K: four[0], N: four[1], Seg: four[2], Size: four[3]}
		if list, f := recipe.Remake(file, u); f != api.ErrUeb && f != api.ErrMade || len(list) > 0 {
			t.Errorf("%v: Remake: %d shares, %d", four, len(list), f)
		}
		c := reading(four, i)
		at := draw()
		if b, f := recipe.Open(c, at, file); f == api.OK && len(b) != len(file) || f != api.OK && len(b) > 0 {
			t.Errorf("%v: Open at %d: %d bytes, %d", four, at, len(b), f)
		}
		if v, f := recipe.Weaken(c); f != api.OK && v != (api.Verify{}) {
			t.Errorf("%v: Weaken: %v, %d", four, v, f)
		}
	}
}
