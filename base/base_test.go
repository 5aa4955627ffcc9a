package base_test

import (
	"bytes"
	"encoding/base32"
	"fmt"
	"math"
	"math/big"
	"slices"
	"strings"
	"testing"

	"strongroom/api"
	"strongroom/base"
)

const theAlphabet = "abcdefghijklmnopqrstuvwxyz234567"

// roomy gives a list with spare room behind it, and a function that tells whether all of it is as it was.
func roomy(list []byte) ([]byte, func() bool) {
	all := append(slices.Clone(list), 7, 7, 7)
	was := slices.Clone(all)
	return all[:len(list)], func() bool { return bytes.Equal(all, was) }
}

// spoil overwrites a list and its spare room.
func spoil(l []byte) {
	l = l[:cap(l)]
	for i := range l {
		l[i] ^= 0xa5
	}
}

// mixed gives n bytes that look like no rule.
func mixed(n, seed int) []byte {
	b := make([]byte, n)
	x := uint32(seed)*2654435761 + 1
	for i := range b {
		x = x*1664525 + 1013904223
		b[i] = byte(x >> 24)
	}
	return b
}

// lists gives byte lists of all small lengths, with noughts, with ones, with single bits, and mixed ones.
func lists() [][]byte {
	out := [][]byte{nil, {}, []byte("foobar"), []byte("a b/\u00e9"), []byte(":/%"), []byte("%25"), []byte("\xff\xfe")}
	for c := range 256 {
		out = append(out, []byte{byte(c)}, []byte{byte(c), 'a'}, []byte{'a', byte(c)})
	}
	for n := 1; n < 24; n++ {
		out = append(out, make([]byte, n), bytes.Repeat([]byte{255}, n))
		for bit := range 8 * n {
			b := make([]byte, n)
			b[bit/8] = 1 << (bit % 8)
			out = append(out, b)
		}
		for seed := range 20 {
			out = append(out, mixed(n, seed))
		}
	}
	return append(out, mixed(1000, 1), mixed(4096, 2), mixed(65537, 3))
}

// texts gives all texts of up to so many bytes of these.
func texts(bytes string, most int) []string {
	out := []string{""}
	for from := 0; most > 0; most-- {
		to := len(out)
		for _, s := range out[from:to] {
			for i := range len(bytes) {
				out = append(out, s+bytes[i:i+1])
			}
		}
		from = to
	}
	return out
}

// bitsOf writes bytes as noughts and ones.
func bitsOf(b []byte) string {
	var s strings.Builder
	for _, c := range b {
		fmt.Fprintf(&s, "%08b", c)
	}
	return s.String()
}

// lettersOf reckons letters by a text of noughts and ones.
func lettersOf(b []byte) string {
	bits := bitsOf(b)
	for len(bits)%5 != 0 {
		bits += "0"
	}
	var s strings.Builder
	for ; bits != ""; bits = bits[5:] {
		v := new(big.Int)
		v.SetString(bits[:5], 2)
		s.WriteByte(theAlphabet[v.Int64()])
	}
	return s.String()
}

// bytesOf reckons what Bytes answers: it takes the whole bytes that are in the letters, and asks whether these are their letters.
func bytesOf(s string) ([]byte, int, api.Errno) {
	var bits string
	for i := range len(s) {
		v := strings.IndexByte(theAlphabet, s[i])
		if v < 0 {
			return nil, i, api.ErrLetter
		}
		bits += fmt.Sprintf("%05b", v)
	}
	var b []byte
	for ; len(bits) >= 8; bits = bits[8:] {
		v := new(big.Int)
		v.SetString(bits[:8], 2)
		b = append(b, byte(v.Int64()))
	}
	if lettersOf(b) != s {
		return nil, len(s) - 1, api.ErrSpare
	}
	return b, 0, api.OK
}

func TestP10_1Letters(t *testing.T) {
	library := base32.NewEncoding(theAlphabet).WithPadding(base32.NoPadding)
	for _, list := range lists() {
		b, stays := roomy(list)
		got := base.Letters(b)
		want := library.EncodeToString(list)
		if got != want || len(list) < 100 && got != lettersOf(list) {
			t.Fatalf("%x: %s, not %s", list, got, want)
		}
		if !stays() {
			t.Fatalf("%x: an argument was changed", list)
		}
		spoil(b)
		if got != want {
			t.Fatalf("%x: an answer is a part of an argument", list)
		}
	}
}

func TestP10_1Length(t *testing.T) {
	ns := []int{1 << 24, 1<<31 - 1, 1 << 32, 1<<40 + 3}
	for i := range 300 {
		ns = append(ns, i, math.MaxInt/8-i)
	}
	for _, n := range ns {
		want := big.NewInt(int64(n))
		want.Mul(want, big.NewInt(8)).Add(want, big.NewInt(4)).Div(want, big.NewInt(5))
		if got := base.Length(n); int64(got) != want.Int64() {
			t.Errorf("%d: %d, not %v", n, got, want)
		}
	}
	for _, n := range []int{-1, -2, -3, -5, -1000, -1 << 32, math.MinInt / 8, math.MinInt + 1, math.MinInt} {
		if got := base.Length(n); got != 0 {
			t.Errorf("%d: %d", n, got)
		}
	}
	// What is answered is free, but something is.
	for i := range 10 {
		base.Length(math.MaxInt/8 + 1 + i)
		base.Length(math.MaxInt - i)
	}
}

func checkBytes(t *testing.T, s string) {
	t.Helper()
	want, place, f := bytesOf(s)
	got, at, e := base.Bytes(s)
	if !bytes.Equal(got, want) || at != place || e != f {
		t.Fatalf("%q: %x, %d, %d; want %x, %d, %d", s, got, at, e, want, place, f)
	}
}

func TestP10_2Bytes(t *testing.T) {
	for _, list := range lists() {
		if len(list) < 100 {
			checkBytes(t, lettersOf(list))
		}
	}
	for _, s := range texts(theAlphabet, 3) {
		checkBytes(t, s)
	}
	for _, s := range texts("ab7", 10) {
		checkBytes(t, s)
	}
}

func TestP10_2WrongLetters(t *testing.T) {
	for c := range 256 {
		for n := range 18 {
			s := []byte(strings.Repeat("a", n))
			for i := range s {
				s[i] = byte(c)
				checkBytes(t, string(s))
				s[i] = 'a'
			}
		}
	}
	// The first of several faults, and a wrong letter ahead of spare bits and of a wrong number of letters.
	for _, s := range texts("ab1=", 8) {
		checkBytes(t, s)
	}
	for _, s := range []string{"MY", "my======", "mz xw", "mzxw\n", "\u00e9", "a\u00e9", "a\x00", "aaaaaaaa0", "aaaaaaaa8", "aaaaaaaa1"} {
		checkBytes(t, s)
		if _, _, e := base.Bytes(s); e != api.ErrLetter {
			t.Errorf("%q: %d", s, e)
		}
	}
}

func TestP10_2Spare(t *testing.T) {
	for eights := range 4 {
		whole := strings.Repeat("765432zz", eights)
		for n := range 8 {
			for v := range 32 {
				if n == 0 && v > 0 {
					break
				}
				s := whole
				if n > 0 {
					s += strings.Repeat("q", n-1) + theAlphabet[v:v+1]
				}
				checkBytes(t, s)
				spare := []int{1, 32, 4, 32, 16, 2, 32, 8}[n] // what the last letter's value must be a multiple of
				_, at, e := base.Bytes(s)
				if free := n != 1 && n != 3 && n != 6 && v%spare == 0; free != (e == api.OK) || !free && (e != api.ErrSpare || at != len(s)-1) {
					t.Fatalf("%q: %d, %d", s, at, e)
				}
			}
		}
	}
}

func TestP10_2MemoryOfItsOwn(t *testing.T) {
	s := "mzxw6ytboi"
	one, _, _ := base.Bytes(s)
	spoil(one)
	if other, _, _ := base.Bytes(s); string(other) != "foobar" || s != "mzxw6ytboi" {
		t.Error(other, s)
	}
}

func TestP10_3Number(t *testing.T) {
	xs := []int{math.MaxInt, math.MaxInt - 1, 1 << 32, 1<<32 - 1, 1 << 24}
	for i, p := 0, 1; i < 18; i, p = i+1, p*10 {
		xs = append(xs, p-1, p, p+1, 9*p)
	}
	for i := range 2000 {
		xs = append(xs, i)
	}
	for _, x := range xs {
		if s, e := base.Number(x); s != fmt.Sprint(x) || e != api.OK {
			t.Errorf("%d: %s, %d", x, s, e)
		}
	}
	for _, x := range []int{-1, -2, -9, -10, -1 << 31, -1 << 32, math.MinInt + 1, math.MinInt} {
		if s, e := base.Number(x); s != "" || e != api.ErrNumber {
			t.Errorf("%d: %s, %d", x, s, e)
		}
	}
}

func TestP10_4ReadNumber(t *testing.T) {
	numbers := map[string]int{}
	for x := range 10000 {
		numbers[fmt.Sprint(x)] = x
	}
	all := append(texts("0123456789", 4), texts("01+-_ ex.\x00", 4)...)
	for _, s := range all {
		for _, most := range []int{-1, 0, 1, 9, 10, 99, 100, 1234, 9999, math.MaxInt, math.MinInt} {
			want, f := 0, api.ErrNumber
			if x, ok := numbers[s]; ok && x <= most {
				want, f = x, api.OK
			}
			if got, e := base.ReadNumber(s, most); got != want || e != f {
				t.Fatalf("%q, %d: %d, %d; want %d, %d", s, most, got, e, want, f)
			}
		}
	}
}

func TestP10_4GreatNumbers(t *testing.T) {
	for i := range 1000 {
		x := math.MaxInt - i
		s := fmt.Sprint(x)
		if got, e := base.ReadNumber(s, x); got != x || e != api.OK {
			t.Fatal(s, got, e)
		}
		if got, e := base.ReadNumber(s, math.MaxInt); got != x || e != api.OK {
			t.Fatal(s, got, e)
		}
		if got, e := base.ReadNumber(s, x-1); got != 0 || e != api.ErrNumber {
			t.Fatal(s, got, e)
		}
	}
	beyond := new(big.Int).SetUint64(math.MaxInt)
	for range 300 {
		beyond.Add(beyond, big.NewInt(1))
		if got, e := base.ReadNumber(beyond.String(), math.MaxInt); got != 0 || e != api.ErrNumber {
			t.Fatal(beyond, got, e)
		}
	}
	// Such as a number of 64 bits would take for a small one, signs, and what other writings have.
	wrong := []string{"18446744073709551616", "18446744073709551617", "36893488147419103232", strings.Repeat("9", 1000), strings.Repeat("0", 1000), strings.Repeat("0", 1000) + "1",
		"-0", "-1", "+0", "-9223372036854775808", "0x1", "0b1", "0o1", "1_000", "1e3", "1.0", " 1", "1 ", "1\n", "\u0661", "\uff11", "1\u00e9", "1:", "/", ":", "inf"}
	for _, s := range wrong {
		if got, e := base.ReadNumber(s, math.MaxInt); got != 0 || e != api.ErrNumber {
			t.Errorf("%q: %d, %d", s, got, e)
		}
	}
}

func TestP10_7LettersThereAndBack(t *testing.T) {
	for _, b := range lists() {
		s := base.Letters(b)
		if len(s) != base.Length(len(b)) {
			t.Fatalf("%x: %d letters", b, len(s))
		}
		if got, at, e := base.Bytes(s); !bytes.Equal(got, b) || at != 0 || e != api.OK {
			t.Fatalf("%x: %x, %d, %d", b, got, at, e)
		}
	}
	taken := 0
	for _, s := range append(texts(theAlphabet, 3), texts("aceiqy4", 6)...) {
		b, _, e := base.Bytes(s)
		if e != api.OK {
			continue
		}
		taken++
		if base.Letters(b) != s {
			t.Fatalf("%q: %x", s, b)
		}
	}
	if taken < 1000 {
		t.Error(taken)
	}
}

func TestP10_7NumbersThereAndBack(t *testing.T) {
	for i := range 5000 {
		for _, x := range []int{i, i * i * i, math.MaxInt / (i + 1)} {
			s, e := base.Number(x)
			if got, f := base.ReadNumber(s, x); got != x || e != api.OK || f != api.OK {
				t.Fatal(x, s, got, e, f)
			}
		}
	}
	for _, s := range texts("0123456789+- ", 4) {
		if x, e := base.ReadNumber(s, math.MaxInt); e == api.OK {
			if again, f := base.Number(x); again != s || f != api.OK {
				t.Fatalf("%q: %d, %s", s, x, again)
			}
		}
	}
}

// ordered gives a text whose order is that of letters of which 2 to 7 stand behind z.
func ordered(letters string) string {
	b := []byte(letters)
	for i := range b {
		if b[i] >= '2' && b[i] <= '7' {
			b[i] += 'z'
		}
	}
	return string(b)
}

func TestP10_9Order(t *testing.T) {
	byLength := map[int][][]byte{}
	for _, b := range lists() {
		byLength[len(b)] = append(byLength[len(b)], b)
	}
	for n, all := range byLength {
		slices.SortFunc(all, bytes.Compare)
		for i := range all[1:] {
			x, y := ordered(base.Letters(all[i])), ordered(base.Letters(all[i+1]))
			if strings.Compare(x, y) != bytes.Compare(all[i], all[i+1]) {
				t.Fatalf("%d bytes: %x, %x", n, all[i], all[i+1])
			}
		}
	}
}

func TestExamplesOfLettersAndNumbers(t *testing.T) {
	for b, want := range map[string]string{"": "", "\x00": "aa", "\xff": "74", "foobar": "mzxw6ytboi"} {
		if s := base.Letters([]byte(b)); s != want {
			t.Errorf("%q: %s", b, s)
		}
	}
	for n, want := range map[int]int{1: 2, 5: 8, 16: 26, 32: 52} {
		if got := base.Length(n); got != want {
			t.Error(n, got)
		}
	}
	if b, at, e := base.Bytes("mzxw6ytboi"); string(b) != "foobar" || at != 0 || e != api.OK {
		t.Error(b, at, e)
	}
	for _, x := range []struct {
		s  string
		at int
		e  api.Errno
	}{{"A", 0, api.ErrLetter}, {"a1", 1, api.ErrLetter}, {"a", 0, api.ErrSpare}, {"ab", 1, api.ErrSpare}, {"abc", 2, api.ErrSpare}} {
		if b, at, e := base.Bytes(x.s); len(b) != 0 || at != x.at || e != x.e {
			t.Error(x.s, b, at, e)
		}
	}
	for x, want := range map[int]string{0: "0", 42: "42"} {
		if s, e := base.Number(x); s != want || e != api.OK {
			t.Error(x, s, e)
		}
	}
	if s, e := base.Number(-1); s != "" || e != api.ErrNumber {
		t.Error(s, e)
	}
	for _, s := range []string{"007", "10", "", "+1"} {
		if x, e := base.ReadNumber(s, 9); x != 0 || e != api.ErrNumber {
			t.Error(s, x, e)
		}
	}
	if x, e := base.ReadNumber("9", 9); x != 9 || e != api.OK {
		t.Error(x, e)
	}
}
