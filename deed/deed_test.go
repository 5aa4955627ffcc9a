package deed_test

import (
	"bytes"
	"crypto/sha256"
	"encoding/base32"
	"encoding/binary"
	"fmt"
	"math"
	"math/rand/v2"
	"reflect"
	"regexp"
	"slices"
	"strings"
	"testing"

	"strongroom/api"
	"strongroom/deed"
)

const alphabet = "abcdefghijklmnopqrstuvwxyz234567"

var library = base32.NewEncoding(alphabet).WithPadding(base32.NoPadding)

// letters reckons letters by the library.
func letters(b []byte) string { return library.EncodeToString(b) }

// index reckons an index by the library: the first 16 bytes of the tagged digest.
func index(k api.Key) api.Index {
	var b []byte
	for _, part := range [][]byte{[]byte("strongroom index"), k[:]} {
		b = binary.BigEndian.AppendUint64(b, uint64(len(part)))
		b = append(b, part...)
	}
	d := sha256.Sum256(b)
	return api.Index(d[:16])
}

// fits tells whether there is a shape with these four.
func fits(k, n, seg, size int) bool {
	if k < 1 || k > n || n > 255 || seg < 1 || seg%k != 0 || seg/k > (65536+k-1)/k || size < 33 || size > 1<<24 {
		return false
	}
	return (size-1)/seg+1 <= 512
}

// may tells whether a capability may be.
func may(c api.Cap) bool {
	r, v := c.Read, c.Verify
	switch c.Kind {
	case api.CapRead:
		return v == api.Verify{} && len(c.Lit) == 0 && fits(r.K, r.N, r.Seg, r.Size)
	case api.CapVerify:
		return r == api.Read{} && len(c.Lit) == 0 && fits(v.K, v.N, v.Seg, v.Size)
	case api.CapLit:
		return r == api.Read{} && v == api.Verify{} && len(c.Lit) <= 32
	}
	return false
}

// text reckons a capability's text.
func text(c api.Cap) string {
	dir := ""
	if c.Dir {
		dir = "dir-"
	}
	r, v := c.Read, c.Verify
	switch c.Kind {
	case api.CapRead:
		return fmt.Sprintf("strongroom:%sread:%s:%s:%d:%d:%d:%d", dir, letters(r.Key[:]), letters(r.Ueb[:]), r.K, r.N, r.Seg, r.Size)
	case api.CapVerify:
		return fmt.Sprintf("strongroom:%sverify:%s:%s:%d:%d:%d:%d", dir, letters(v.Index[:]), letters(v.Ueb[:]), v.K, v.N, v.Seg, v.Size)
	}
	return fmt.Sprintf("strongroom:%slit:%s", dir, letters(c.Lit))
}

// equal tells whether capabilities are the same, a list without elements being as none.
func equal(a, b api.Cap) bool {
	if len(a.Lit) == 0 && len(b.Lit) == 0 {
		a.Lit, b.Lit = nil, nil
	}
	return reflect.DeepEqual(a, b)
}

// filled gives n bytes that look like no rule.
func filled(n, seed int) []byte {
	b := make([]byte, n)
	r := rand.New(rand.NewPCG(uint64(seed), 15))
	for i := range b {
		b[i] = byte(r.Uint32())
	}
	return b
}

// reading, checking and holding give capabilities of the three kinds.
func reading(four [4]int, seed int) api.Cap {
	r := api.Read{Key: api.Key(filled(16, seed)), Ueb: api.Digest(filled(32, seed+1)), K: four[0], N: four[1], Seg: four[2], Size: four[3]}
	return api.Cap{Kind: api.CapRead, Read: r}
}

func checking(four [4]int, seed int) api.Cap {
	v := api.Verify{Index: api.Index(filled(16, seed)), Ueb: api.Digest(filled(32, seed+1)), K: four[0], N: four[1], Seg: four[2], Size: four[3]}
	return api.Cap{Kind: api.CapVerify, Verify: v}
}

func holding(n, seed int) api.Cap { return api.Cap{Kind: api.CapLit, Lit: filled(n, seed)} }

// goodFours are K, N, Seg and Size of shapes, at their edges and between; badFours are of none.
func goodFours() [][4]int {
	return [][4]int{
		{3, 5, 12, 100}, {1, 1, 1, 33}, {1, 1, 1, 512}, {1, 1, 33, 33}, {255, 255, 255, 33}, {255, 255, 65535, 1 << 24}, {1, 255, 65536, 1 << 24}, {1, 1, 32768, 1 << 24}, {3, 5, 65538, 100},
		{3, 5, 12, 6144}, {254, 255, 65786 - 65786%254, 1 << 20}, {2, 3, 65536, 1<<24 - 1}, {100, 200, 65600, 5000}, {5, 7, 65540, 999999}, {251, 255, 251 * 262, 1 << 24},
	}
}

func badFours() [][4]int {
	return [][4]int{
		{}, {0, 5, 12, 100}, {6, 5, 12, 100}, {3, 0, 12, 100}, {3, 256, 12, 100}, {3, 5, 0, 100}, {3, 5, 13, 100}, {3, 5, 65541, 100}, {3, 5, 12, 32}, {3, 5, 12, 0}, {3, 5, 12, 6145}, {1, 1, 65537, 100},
		{3, 5, 65538, 1<<24 + 1}, {-3, 5, 12, 100}, {3, -5, 12, 100}, {3, 5, -12, 100}, {3, 5, 12, -100}, {-3, -5, -12, -100}, {256, 256, 256, 300}, {255, 255, 65535 + 510, 100},
		{math.MaxInt, math.MaxInt, math.MaxInt, math.MaxInt}, {math.MinInt, math.MinInt, math.MinInt, math.MinInt}, {3, 5, math.MaxInt, 100}, {3, 5, 12, math.MaxInt}, {1, math.MaxInt, 12, 100}, {3, 5, math.MinInt, 100},
	}
}

// goodCaps gives capabilities that may be, of all kinds, with Dir and without.
func goodCaps() []api.Cap {
	var out []api.Cap
	for i, four := range goodFours() {
		out = append(out, reading(four, 2*i), checking(four, 2*i))
	}
	for n := range 33 {
		out = append(out, holding(n, n))
	}
	out = append(out, api.Cap{Kind: api.CapLit}, api.Cap{Kind: api.CapLit, Lit: make([]byte, 32)}, api.Cap{Kind: api.CapLit, Lit: bytes.Repeat([]byte{255}, 32)})
	out = append(out, api.Cap{Kind: api.CapRead, Read: api.Read{K: 3, N: 5, Seg: 12, Size: 100}}, api.Cap{Kind: api.CapVerify, Verify: api.Verify{K: 3, N: 5, Seg: 12, Size: 100}})
	return both(out)
}

// both gives capabilities without Dir and then with it.
func both(caps []api.Cap) []api.Cap {
	out := slices.Clone(caps)
	for _, c := range caps {
		c.Dir = true
		out = append(out, c)
	}
	return out
}

// badCaps gives capabilities that may not be.
func badCaps() []api.Cap {
	var out []api.Cap
	for i, four := range badFours() {
		out = append(out, reading(four, 2*i), checking(four, 2*i))
	}
	for _, n := range []int{33, 34, 64, 1000, 1 << 16} {
		out = append(out, holding(n, n))
	}
	good := []api.Cap{reading([4]int{3, 5, 12, 100}, 1), checking([4]int{3, 5, 12, 100}, 2), holding(0, 3), holding(6, 4)}
	for _, c := range good {
		for kind := range 256 {
			if d := c; api.CapKind(kind) != c.Kind && (kind != int(api.CapLit) || c.Kind != api.CapLit) {
				d.Kind = api.CapKind(kind)
				out = append(out, d)
			}
		}
		for _, add := range strangers() {
			d := c
			add(&d)
			if !equal(c, d) {
				out = append(out, d)
			}
		}
	}
	return both(append(out, api.Cap{}))
}

// strangers put something into a field that is another kind's: every field of each.
func strangers() []func(c *api.Cap) {
	kept := func(kind api.CapKind, f func(c *api.Cap)) func(c *api.Cap) {
		return func(c *api.Cap) {
			if c.Kind != kind {
				f(c)
			}
		}
	}
	return []func(c *api.Cap){
		kept(api.CapRead, func(c *api.Cap) { c.Read.Key[0] = 1 }),
		kept(api.CapRead, func(c *api.Cap) { c.Read.Key[15] = 1 }),
		kept(api.CapRead, func(c *api.Cap) { c.Read.Ueb[31] = 1 }),
		kept(api.CapRead, func(c *api.Cap) { c.Read.K = 3 }),
		kept(api.CapRead, func(c *api.Cap) { c.Read.N = -1 }),
		kept(api.CapRead, func(c *api.Cap) { c.Read.Seg = 12 }),
		kept(api.CapRead, func(c *api.Cap) { c.Read.Size = 1 }),
		kept(api.CapRead, func(c *api.Cap) { c.Read = reading([4]int{3, 5, 12, 100}, 5).Read }),
		kept(api.CapVerify, func(c *api.Cap) { c.Verify.Index[0] = 1 }),
		kept(api.CapVerify, func(c *api.Cap) { c.Verify.Index[15] = 1 }),
		kept(api.CapVerify, func(c *api.Cap) { c.Verify.Ueb[31] = 1 }),
		kept(api.CapVerify, func(c *api.Cap) { c.Verify.K = 3 }),
		kept(api.CapVerify, func(c *api.Cap) { c.Verify.N = -1 }),
		kept(api.CapVerify, func(c *api.Cap) { c.Verify.Seg = 12 }),
		kept(api.CapVerify, func(c *api.Cap) { c.Verify.Size = 1 }),
		kept(api.CapVerify, func(c *api.Cap) { c.Verify = checking([4]int{3, 5, 12, 100}, 6).Verify }),
		kept(api.CapLit, func(c *api.Cap) { c.Lit = []byte{0} }),
		kept(api.CapLit, func(c *api.Cap) { c.Lit = make([]byte, 1<<16) }),
	}
}

// anyCaps gives all of them, and some with a list without elements.
func anyCaps() []api.Cap {
	out := append(goodCaps(), badCaps()...)
	for _, c := range goodCaps()[:4] {
		c.Lit = []byte{}
		out = append(out, c)
	}
	return append(out, api.Cap{Lit: []byte{}}, api.Cap{Kind: api.CapLit, Lit: []byte{}})
}

func TestP15_1Check(t *testing.T) {
	good, bad := 0, 0
	for _, c := range anyCaps() {
		want := api.OK
		if !may(c) {
			want = api.ErrCap
			bad++
		} else {
			good++
		}
		if e := deed.Check(c); e != want {
			t.Errorf("%+v: %d, not %d", c, e, want)
		}
	}
	if good != len(goodCaps())+5 || bad != len(badCaps())+1 {
		t.Error(good, bad)
	}
}

func TestP15_1CheckEveryFour(t *testing.T) {
	r := rand.New(rand.NewPCG(15, 1))
	draw := func(edges ...int) int { return edges[r.IntN(len(edges))] + r.IntN(3) - 1 }
	good := 0
	for range 200000 {
		k := draw(1, 2, 3, 7, 254, 255)
		four := [4]int{k, draw(1, 2, 3, 7, k, 254, 255), draw(1, 12, k, 2*k, 65535, 65536, 65537, k*((65536+max(k, 1)-1)/max(k, 1))), draw(32, 33, 512, 513, 1000, 1<<24, 512*k)}
		want := api.ErrCap
		if fits(four[0], four[1], four[2], four[3]) {
			want = api.OK
			good++
		}
		if e := deed.Check(reading(four, 0)); e != want {
			t.Fatalf("%v: %d, not %d", four, e, want)
		}
		if e := deed.Check(checking(four, 0)); e != want {
			t.Fatalf("%v: %d, not %d", four, e, want)
		}
	}
	if good < 2000 {
		t.Error(good)
	}
}

func TestP15_1Print(t *testing.T) {
	for _, c := range anyCaps() {
		s, e := deed.Print(c)
		if !may(c) {
			if s != "" || e != api.ErrCap {
				t.Errorf("%+v: %q, %d", c, s, e)
			}
		} else if s != text(c) || e != api.OK {
			t.Errorf("%+v: %q, %d; want %q", c, s, e, text(c))
		}
	}
}

// parts cuts a text at its colons, and gives the place of each part.
func parts(s string) ([]string, []int) {
	list := strings.Split(s, ":")
	places := []int{0}
	for _, p := range list {
		places = append(places, places[len(places)-1]+len(p)+1)
	}
	return list, places[:len(list)]
}

// lettered reckons what is wrong with letters of so many bytes: by asking whether the bytes that the library reads are written so.
func lettered(p string, least, most int) ([]byte, int, api.Errno) {
	if at := strings.IndexFunc(p, func(r rune) bool { return !strings.ContainsRune(alphabet, r) }); at >= 0 {
		return nil, at, api.ErrLetter
	}
	b, err := library.DecodeString(p)
	if err != nil || letters(b) != p {
		return nil, len(p) - 1, api.ErrSpare
	}
	if len(b) < least || len(b) > most {
		return nil, 0, api.ErrWords
	}
	return b, 0, api.OK
}

var decimal = regexp.MustCompile(`\A(0|[1-9][0-9]{0,8})\z`)

// numbered reckons the number of digits, if it is at most so much.
func numbered(p string, most int) (int, bool) {
	if !decimal.MatchString(p) {
		return 0, false
	}
	x := 0
	fmt.Sscanf(p, "%d", &x)
	return x, x <= most
}

// parse reckons what Parse answers.
func parse(s string) (api.Cap, int, api.Errno) {
	no := func(at int, e api.Errno) (api.Cap, int, api.Errno) { return api.Cap{}, at, e }
	if len(s) > 256 {
		return no(256, api.ErrLong)
	}
	list, at := parts(s)
	if list[0] != "strongroom" {
		return no(0, api.ErrWords)
	}
	if len(list) < 2 {
		return no(len(s), api.ErrWords)
	}
	word := map[string]api.Cap{
		"read": {Kind: api.CapRead}, "verify": {Kind: api.CapVerify}, "lit": {Kind: api.CapLit},
		"dir-read": {Kind: api.CapRead, Dir: true}, "dir-verify": {Kind: api.CapVerify, Dir: true}, "dir-lit": {Kind: api.CapLit, Dir: true},
	}
	c, is := word[list[1]]
	if !is {
		return no(at[1], api.ErrWords)
	}
	want := 8
	if c.Kind == api.CapLit {
		want = 3
	}
	if len(list) < want {
		return no(len(s), api.ErrWords)
	}
	if len(list) > want {
		return no(at[want], api.ErrWords)
	}
	if c.Kind == api.CapLit {
		b, place, e := lettered(list[2], 0, 32)
		if e != api.OK {
			return no(at[2]+place, e)
		}
		c.Lit = b
		return c, 0, api.OK
	}
	first, place, e := lettered(list[2], 16, 16)
	if e != api.OK {
		return no(at[2]+place, e)
	}
	ueb, place, e := lettered(list[3], 32, 32)
	if e != api.OK {
		return no(at[3]+place, e)
	}
	var four [4]int
	for i, most := range []int{255, 255, 65536 + 255, 1 << 24} {
		x, is := numbered(list[4+i], most)
		if !is {
			return no(at[4+i], api.ErrNumber)
		}
		four[i] = x
	}
	if c.Kind == api.CapRead {
		c.Read = api.Read{Key: api.Key(first), Ueb: api.Digest(ueb), K: four[0], N: four[1], Seg: four[2], Size: four[3]}
	} else {
		c.Verify = api.Verify{Index: api.Index(first), Ueb: api.Digest(ueb), K: four[0], N: four[1], Seg: four[2], Size: four[3]}
	}
	if !may(c) {
		return no(0, api.ErrCap)
	}
	return c, 0, api.OK
}

// checkParse holds what Parse answers against the reckoning, and gives the error.
func checkParse(t *testing.T, s string) api.Errno {
	t.Helper()
	want, place, f := parse(s)
	got, at, e := deed.Parse(s)
	if !equal(got, want) || at != place || e != f {
		t.Fatalf("%q: %+v, %d, %d; want %+v, %d, %d", s, got, at, e, want, place, f)
	}
	return e
}

func TestP15_2Parse(t *testing.T) {
	for _, c := range goodCaps() {
		if e := checkParse(t, text(c)); e != api.OK {
			t.Errorf("%s: %d", text(c), e)
		}
	}
	for _, four := range badFours() {
		for _, c := range both([]api.Cap{reading(four, 1), checking(four, 1)}) {
			if e := checkParse(t, text(c)); e != api.ErrCap && e != api.ErrNumber {
				t.Errorf("%s: %d", text(c), e)
			}
		}
	}
}

func TestP15_2Long(t *testing.T) {
	good := text(reading([4]int{3, 5, 12, 100}, 1))
	for _, s := range []string{strings.Repeat("a", 257), strings.Repeat(":", 257), good + strings.Repeat(":", 257-len(good)), "strongroom:lit:" + strings.Repeat("a", 242), strings.Repeat("\u00e9", 129), strings.Repeat("x", 1<<20)} {
		if e := checkParse(t, s); e != api.ErrLong {
			t.Errorf("%q: %d", s, e)
		}
	}
	for _, s := range []string{strings.Repeat("a", 256), strings.Repeat(":", 256), good + strings.Repeat(":", 256-len(good)), "strongroom:lit:" + strings.Repeat("a", 241)} {
		if e := checkParse(t, s); e == api.ErrLong {
			t.Errorf("%q: %d", s, e)
		}
	}
}

func TestP15_2Words(t *testing.T) {
	heads := []string{"", "strongroom", "Strongroom", "strongroom ", " strongroom", "strongroo", "strongroomm", "strong", "STRONGROOM", "strongroom\x00"}
	words := []string{"read", "verify", "lit", "dir-read", "dir-verify", "dir-lit", "", "dir-", "dir", "dir-dir-read", "dir-dir-lit", "Read", "READ", "reads", "rea", "lit ", "LIT", "-lit", "dirlit", "dir_lit", "write", "Dir-read", "verif", "readverify", "dir-lit-", "dir- lit"}
	for _, h := range heads {
		if e := checkParse(t, h); e != api.ErrWords {
			t.Errorf("%q: %d", h, e)
		}
		for _, w := range words {
			for behind := range 9 {
				checkParse(t, h+":"+w+strings.Repeat(":", behind))
				checkParse(t, h+":"+w+strings.Repeat(":aa", behind))
			}
		}
	}
	for i, w := range words {
		if _, at, e := deed.Parse("strongroom:" + w + ":"); i < 6 && at <= 11 || i >= 6 && (at != 11 || e != api.ErrWords) {
			if w != "lit" && w != "dir-lit" {
				t.Errorf("%q: %d, %d", w, at, e)
			}
		}
	}
}

// TestP15_2HowMany takes parts of good texts away from behind, and lays more behind them.
func TestP15_2HowMany(t *testing.T) {
	for _, c := range goodCaps() {
		list, _ := parts(text(c))
		for n := range list {
			if e := checkParse(t, strings.Join(list[:n], ":")); e != api.ErrWords {
				t.Errorf("%d parts of %s: %d", n, text(c), e)
			}
		}
		for _, more := range []string{":", "::", ":a", ":1", ":3:5:12:100", ": "} {
			if e := checkParse(t, text(c)+more); e != api.ErrWords {
				t.Errorf("%s%s: %d", text(c), more, e)
			}
		}
	}
}

// TestP15_2EachPart lays other parts into good texts, one part of each at a time, and two.
func TestP15_2EachPart(t *testing.T) {
	other := []string{
		"", "a", "aa", "ab", "aaa", "aaaa", "aaaaaa", "A", "a1", "1a", "0", "00", "1", "01", "3", "5", "12", "13", "33", "100", "255", "256", "512", "513", "0255", "65535", "65536", "65538", "65790", "65791", "65792", "16777216", "16777217", "016777216",
		"+3", "-3", "3 ", " 3", "3.0", "0x3", "3_0", "99999999999999999999", "9223372036854775807", "9223372036854775808", "18446744073709551619", "\u0663", "read", "=", "\x00", "\xff",
		letters(filled(15, 1)), letters(filled(16, 1)), letters(filled(17, 1)), letters(filled(31, 1)), letters(filled(32, 1)), letters(filled(33, 1)), letters(filled(40, 1)),
		strings.Repeat("a", 25) + "b", strings.Repeat("a", 25) + "e", strings.Repeat("7", 26), strings.Repeat("a", 51) + "b", strings.Repeat("a", 51) + "q", strings.Repeat("a", 27), strings.Repeat("a", 53), strings.Repeat("a", 10) + "8" + strings.Repeat("a", 15),
	}
	met := map[api.Errno]int{}
	for _, c := range []api.Cap{reading([4]int{3, 5, 12, 100}, 1), checking([4]int{3, 5, 12, 100}, 3), holding(6, 5)} {
		list, _ := parts(text(c))
		for i := range list {
			for _, p := range other {
				one := slices.Clone(list)
				one[i] = p
				met[checkParse(t, strings.Join(one, ":"))]++
				for j := i + 1; j < len(list); j++ {
					for _, q := range other {
						two := slices.Clone(one)
						two[j] = q
						met[checkParse(t, strings.Join(two, ":"))]++
					}
				}
			}
		}
	}
	for _, e := range []api.Errno{api.OK, api.ErrWords, api.ErrLetter, api.ErrSpare, api.ErrNumber, api.ErrCap} {
		if met[e] < 20 {
			t.Errorf("error %d: %d times", e, met[e])
		}
	}
}

// TestP15_2EachByte writes each byte over each byte of a good text, takes each out, and doubles each.
func TestP15_2EachByte(t *testing.T) {
	for _, c := range []api.Cap{reading([4]int{3, 5, 12, 100}, 1), checking([4]int{255, 255, 65535, 1 << 24}, 3), holding(6, 5), holding(32, 6), {Kind: api.CapLit, Dir: true}} {
		s := text(c)
		for i := range len(s) {
			checkParse(t, s[:i]+s[i+1:])
			checkParse(t, s[:i]+s[i:i+1]+s[i:])
			for x := range 256 {
				checkParse(t, s[:i]+string([]byte{byte(x)})+s[i+1:])
			}
		}
	}
}

func TestP15_2Bounds(t *testing.T) {
	key, ueb := strings.Repeat("a", 26), strings.Repeat("a", 52)
	for _, word := range []string{"read", "dir-verify"} {
		head := "strongroom:" + word + ":" + key + ":" + ueb + ":"
		for _, c := range []struct {
			numbers string
			at      int
			e       api.Errno
		}{
			{"255:255:65535:16777216", 0, api.OK}, {"256:255:65535:16777216", 0, api.ErrNumber}, {"255:256:65535:16777216", 4, api.ErrNumber},
			{"1:1:65536:16777216", 0, api.OK}, {"1:1:65537:16777216", 0, api.ErrCap}, {"1:1:65791:16777216", 0, api.ErrCap}, {"1:1:65792:16777216", 4, api.ErrNumber},
			{"1:1:65536:16777217", 10, api.ErrNumber}, {"0:1:65536:16777216", 0, api.ErrCap}, {"2:1:65536:16777216", 0, api.ErrCap}, {"1:1:0:100", 0, api.ErrCap}, {"1:1:1:513", 0, api.ErrCap}, {"1:1:1:512", 0, api.OK}, {"1:1:1:32", 0, api.ErrCap}, {"1:1:1:33", 0, api.OK}, {"251:255:65762:16777216", 0, api.OK},
		} {
			at := c.at
			if c.e == api.ErrNumber {
				at += len(head)
			}
			if _, got, e := deed.Parse(head + c.numbers); got != at || e != c.e {
				t.Errorf("%s: %d, %d; want %d, %d", c.numbers, got, e, at, c.e)
			}
			checkParse(t, head+c.numbers)
		}
	}
}

// TestP15_2AnyBytes reads texts that were drawn, of bytes that such texts are made of.
func TestP15_2AnyBytes(t *testing.T) {
	r := rand.New(rand.NewPCG(15, 2))
	scraps := []string{"strongroom", ":", ":", ":", "read", "verify", "lit", "dir-", "a", "aa", "b", "q", "7", "12", "0", "255", strings.Repeat("a", 26), strings.Repeat("a", 52), " ", "\u00e9"}
	for range 50000 {
		s := ""
		for range r.IntN(18) {
			s += scraps[r.IntN(len(scraps))]
		}
		checkParse(t, s)
		checkParse(t, "strongroom:lit:"+s)
		checkParse(t, "strongroom:dir-read:"+s)
	}
}

func TestP15_3Weaken(t *testing.T) {
	for _, c := range anyCaps() {
		was := c
		was.Lit = slices.Clone(c.Lit)
		w, e := deed.Weaken(c)
		v, f := deed.Verify(c)
		if !may(c) || c.Kind == api.CapLit {
			if e != api.ErrCap || f != api.ErrCap || !equal(w, api.Cap{}) || v != (api.Verify{}) {
				t.Errorf("%+v: %+v, %d; %+v, %d", c, w, e, v, f)
			}
			continue
		}
		want := c
		if r := c.Read; c.Kind == api.CapRead {
			want = api.Cap{Kind: api.CapVerify, Dir: c.Dir, Verify: api.Verify{Index: index(r.Key), Ueb: r.Ueb, K: r.K, N: r.N, Seg: r.Seg, Size: r.Size}}
		}
		if e != api.OK || !equal(w, want) {
			t.Errorf("%+v: %+v, %d", c, w, e)
		}
		if f != api.OK || v != want.Verify {
			t.Errorf("%+v: %+v, %d", c, v, f)
		}
		if !equal(c, was) {
			t.Errorf("%+v was changed", was)
		}
	}
}

func TestP15_4Size(t *testing.T) {
	for _, c := range anyCaps() {
		want, f := c.Read.Size+c.Verify.Size+len(c.Lit), api.OK
		if !may(c) {
			want, f = 0, api.ErrCap
		}
		if n, e := deed.Size(c); n != want || e != f {
			t.Errorf("%+v: %d, %d; want %d, %d", c, n, e, want, f)
		}
	}
}

// TestP15_5Same holds all capabilities against each other, and each against what differs from it in one thing.
func TestP15_5Same(t *testing.T) {
	caps := append(goodCaps(), badCaps()[:60]...)
	caps = append(caps, api.Cap{}, api.Cap{Lit: []byte{}}, api.Cap{Lit: []byte{0}}, api.Cap{Kind: 77}, api.Cap{Kind: 77, Dir: true})
	for _, a := range caps {
		for _, b := range caps {
			if got := deed.Same(a, b); got != equal(a, b) {
				t.Fatalf("%+v, %+v: %v", a, b, got)
			}
		}
	}
	for _, c := range anyCaps() {
		d := c
		d.Lit = slices.Clone(c.Lit)
		if !deed.Same(c, d) {
			t.Fatalf("%+v is not the same as itself", c)
		}
		for i, turn := range turns() {
			d := c
			d.Lit = slices.Clone(c.Lit)
			turn(&d)
			if deed.Same(c, d) || deed.Same(d, c) {
				t.Fatalf("%+v, turned by %d: the same", c, i)
			}
		}
	}
}

// turns change each field of a capability.
func turns() []func(c *api.Cap) {
	return []func(c *api.Cap){
		func(c *api.Cap) { c.Kind++ }, func(c *api.Cap) { c.Dir = !c.Dir },
		func(c *api.Cap) { c.Read.Key[7] ^= 1 }, func(c *api.Cap) { c.Read.Ueb[7] ^= 1 }, func(c *api.Cap) { c.Read.K++ }, func(c *api.Cap) { c.Read.N++ }, func(c *api.Cap) { c.Read.Seg++ }, func(c *api.Cap) { c.Read.Size++ },
		func(c *api.Cap) { c.Verify.Index[7] ^= 1 }, func(c *api.Cap) { c.Verify.Ueb[7] ^= 1 }, func(c *api.Cap) { c.Verify.K++ }, func(c *api.Cap) { c.Verify.N++ }, func(c *api.Cap) { c.Verify.Seg++ }, func(c *api.Cap) { c.Verify.Size++ },
		func(c *api.Cap) { c.Lit = append(c.Lit, 0) }, func(c *api.Cap) { c.Lit = append([]byte{1}, c.Lit...) },
		func(c *api.Cap) {
			if len(c.Lit) > 0 {
				c.Lit[len(c.Lit)-1] ^= 1
			} else {
				c.Dir = !c.Dir
			}
		},
	}
}

func TestP15_6ThereAndBack(t *testing.T) {
	seen := map[string]int{}
	caps := goodCaps()
	for i, c := range caps {
		s, e := deed.Print(c)
		if e != api.OK {
			t.Fatalf("%+v: %d", c, e)
		}
		d, at, e := deed.Parse(s)
		if e != api.OK || at != 0 || !equal(c, d) || !deed.Same(c, d) {
			t.Errorf("%s: %+v, %d, %d", s, d, at, e)
		}
		if again, e := deed.Print(d); again != s || e != api.OK {
			t.Errorf("%s, then %s, %d", s, again, e)
		}
		if j, is := seen[s]; is && !equal(c, caps[j]) {
			t.Errorf("%s is the text of two", s)
		}
		seen[s] = i
	}
}

// TestP15_6OneText writes bytes over those of texts: what is read nevertheless is written as it stood.
func TestP15_6OneText(t *testing.T) {
	taken := 0
	for _, c := range goodCaps() {
		s := []byte(text(c))
		for i := range s {
			was := s[i]
			for _, x := range []byte("aAbq27019:-+ =") {
				s[i] = x
				if d, _, e := deed.Parse(string(s)); e == api.OK {
					taken++
					if again, e := deed.Print(d); again != string(s) || e != api.OK {
						t.Fatalf("%s is read as %+v, whose text is %s", s, d, again)
					}
				}
			}
			s[i] = was
		}
	}
	if taken < 1000 {
		t.Error(taken)
	}
}

func TestP15_7Bounds(t *testing.T) {
	longest := 0
	for _, c := range goodCaps() {
		s, _ := deed.Print(c)
		longest = max(longest, len(s))
		if len(s) > 124 {
			t.Errorf("%s has %d bytes", s, len(s))
		}
		w, e := deed.Weaken(c)
		if e != api.OK {
			continue
		}
		if again, e := deed.Weaken(w); e != api.OK || !equal(again, w) {
			t.Errorf("%+v, then %+v, %d", w, again, e)
		}
		n, _ := deed.Size(c)
		if m, e := deed.Size(w); m != n || e != api.OK {
			t.Errorf("%+v: %d, weaker %d, %d", c, n, m, e)
		}
	}
	if longest != 124 {
		t.Errorf("the longest text has %d bytes", longest)
	}
}

// TestOwnMemory holds that arguments stay as they are, and that no answer has a part in them or in another answer.
func TestOwnMemory(t *testing.T) {
	room := filled(20, 9)
	was := slices.Clone(room)
	c := api.Cap{Kind: api.CapLit, Lit: room[:6]}
	want := text(c)
	s, _ := deed.Print(c)
	deed.Check(c)
	deed.Size(c)
	deed.Weaken(c)
	deed.Verify(c)
	deed.Same(c, c)
	if !bytes.Equal(room, was) {
		t.Error("an argument was changed")
	}
	a, _, _ := deed.Parse(s)
	b, _, _ := deed.Parse(s)
	for _, x := range [][]byte{room, a.Lit[:cap(a.Lit)]} {
		for i := range x {
			x[i] ^= 0xa5
		}
	}
	if s != want || !bytes.Equal(b.Lit, was[:6]) {
		t.Error("an answer is a part of an argument or of another answer")
	}
	// A list without elements may have room behind it, which is the caller's.
	v := checking([4]int{3, 5, 12, 100}, 1)
	v.Lit = make([]byte, 0, 8)
	if w, _ := deed.Weaken(v); cap(w.Lit) > 0 {
		w.Lit = append(w.Lit, 1)
		if v.Lit[:1][0] != 0 {
			t.Error("an answer has room in an argument")
		}
	}
}

func TestExamples(t *testing.T) {
	four := api.Read{K: 3, N: 5, Seg: 12, Size: 100}
	as := strings.Repeat("a", 26) + ":" + strings.Repeat("a", 52)
	for _, c := range []struct {
		c api.Cap
		s string
	}{
		{api.Cap{Kind: api.CapRead, Read: four}, "strongroom:read:" + as + ":3:5:12:100"},
		{api.Cap{Kind: api.CapRead, Dir: true, Read: four}, "strongroom:dir-read:" + as + ":3:5:12:100"},
		{api.Cap{Kind: api.CapLit, Lit: []byte("foobar")}, "strongroom:lit:mzxw6ytboi"},
		{api.Cap{Kind: api.CapLit}, "strongroom:lit:"},
	} {
		if s, e := deed.Print(c.c); s != c.s || e != api.OK {
			t.Errorf("%q, %d; want %q", s, e, c.s)
		}
	}
	for _, c := range []struct {
		s  string
		at int
		e  api.Errno
	}{
		{"strongroom:lit", 14, api.ErrWords}, {"strongroom:lit:aa:", 18, api.ErrWords}, {"strongroom:LIT:", 11, api.ErrWords}, {"Strongroom", 0, api.ErrWords},
		{"strongroom:lit:A", 15, api.ErrLetter}, {"strongroom:lit:ab", 16, api.ErrSpare}, {"strongroom:lit:" + strings.Repeat("a", 53), 15, api.ErrWords},
		{"strongroom:read:" + as + ":3:5:013:100", 100, api.ErrNumber}, {"strongroom:read:" + as + ":3:5:13:100", 0, api.ErrCap},
	} {
		if got, at, e := deed.Parse(c.s); at != c.at || e != c.e || !equal(got, api.Cap{}) {
			t.Errorf("%q: %+v, %d, %d; want %d, %d", c.s, got, at, e, c.at, c.e)
		}
	}
	if _, e := deed.Weaken(api.Cap{Kind: api.CapLit, Lit: []byte("foobar")}); e != api.ErrCap {
		t.Error(e)
	}
	if e := deed.Check(api.Cap{Kind: api.CapLit, Read: api.Read{K: 3}}); e != api.ErrCap {
		t.Error(e)
	}
}
