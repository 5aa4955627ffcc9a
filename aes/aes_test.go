package aes_test

import (
	"encoding/hex"
	"math"
	"testing"

	"strongroom/aes"
	"strongroom/api"
)

// The key and the block of the document's examples.
const (
	plainKey   = "000102030405060708090a0b0c0d0e0f"
	plainBlock = "00112233445566778899aabbccddeeff"
)

func sixteen(text string) (out [16]byte) {
	if n, err := hex.Decode(out[:], []byte(text)); n != len(out) || err != nil {
		panic(text)
	}
	return out
}

func block(text string) api.Block { return sixteen(text) }

func key(text string) api.Key { return sixteen(text) }

// counted gives sixteen bytes that hang on n in every place.
func counted(n int) (out [16]byte) {
	x := uint32(n)*2654435761 + 12345
	for i := range out {
		x = x*1664525 + 1013904223
		out[i] = byte(x >> 24)
	}
	return out
}

// states gives states of every kind: noughts, all bits, one byte alone at each place, and mixed ones.
func states() []api.State {
	all := []api.State{{}, {{255, 255, 255, 255}, {255, 255, 255, 255}, {255, 255, 255, 255}, {255, 255, 255, 255}}}
	for i := range 16 {
		var one api.State
		one[i/4][i%4] = byte(0x81 + 7*i)
		all = append(all, one)
	}
	for n := range 100 {
		var s api.State
		for i, a := range counted(n) {
			s[i/4][i%4] = a
		}
		all = append(all, s)
	}
	return all
}

func summed(s, t api.State) api.State {
	for r := range s {
		for c := range s[r] {
			s[r][c] ^= t[r][c]
		}
	}
	return s
}

func TestP3_3(t *testing.T) {
	b := block(plainKey)
	s := aes.Spread(b)
	want := api.State{{0, 4, 8, 12}, {1, 5, 9, 13}, {2, 6, 10, 14}, {3, 7, 11, 15}}
	if s != want || s[1][2] != 9 {
		t.Errorf("Spread: %v", s)
	}
	if got := aes.Gather(want); got != b {
		t.Errorf("Gather: %x", got)
	}
	for n := range 50 {
		b := api.Block(counted(n))
		s := aes.Spread(b)
		for i := range b {
			if s[i%4][i/4] != b[i] {
				t.Errorf("%x: byte %d stands wrong", b, i)
			}
		}
	}
}

func TestP3_4SubAll(t *testing.T) {
	for _, s := range states() {
		sub, unsub := aes.SubAll(s), aes.UnsubAll(s)
		for r := range s {
			for c := range s[r] {
				if sub[r][c] != slowSub(s[r][c]) || slowSub(unsub[r][c]) != s[r][c] {
					t.Errorf("%x: [%d][%d]", s, r, c)
				}
			}
		}
	}
}

func TestP3_4Shift(t *testing.T) {
	s := aes.Spread(block(plainKey))
	if got := aes.Shift(s); got != (api.State{{0, 4, 8, 12}, {5, 9, 13, 1}, {10, 14, 2, 6}, {15, 3, 7, 11}}) {
		t.Errorf("Shift: %v", got)
	}
	if got := aes.Unshift(s); got != (api.State{{0, 4, 8, 12}, {13, 1, 5, 9}, {10, 14, 2, 6}, {7, 11, 15, 3}}) {
		t.Errorf("Unshift: %v", got)
	}
	for _, s := range states() {
		left, right := aes.Shift(s), aes.Unshift(s)
		for r := range s {
			for c := range s[r] {
				if left[r][c] != s[r][(c+r)%4] || right[r][(c+r)%4] != s[r][c] {
					t.Errorf("%x: [%d][%d]", s, r, c)
				}
			}
		}
	}
}

// slowMix has the rows of the document, written out.
func slowMix(s api.State, rows [4][4]byte) (out api.State) {
	for r := range rows {
		for c := range s[r] {
			for i := range 4 {
				out[r][c] ^= slowProduct(rows[r][i], s[i][c])
			}
		}
	}
	return out
}

func TestP3_5Mix(t *testing.T) {
	got := aes.Mix(api.State{{0xdb, 0xf2, 0x01, 0xc6}, {0x13, 0x0a, 0x01, 0xc6}, {0x53, 0x22, 0x01, 0xc6}, {0x45, 0x5c, 0x01, 0xc6}})
	if got != (api.State{{0x8e, 0x9f, 0x01, 0xc6}, {0x4d, 0xdc, 0x01, 0xc6}, {0xa1, 0x58, 0x01, 0xc6}, {0xbc, 0x9d, 0x01, 0xc6}}) {
		t.Errorf("Mix: %x", got)
	}
	rows := [4][4]byte{{2, 3, 1, 1}, {1, 2, 3, 1}, {1, 1, 2, 3}, {3, 1, 1, 2}}
	for _, s := range states() {
		if got, want := aes.Mix(s), slowMix(s, rows); got != want {
			t.Errorf("%x: %x instead of %x", s, got, want)
		}
	}
}

func TestP3_5Unmix(t *testing.T) {
	got := aes.Unmix(api.State{{0x8e, 0xd5}, {0x4d, 0xd5}, {0xa1, 0xd7}, {0xbc, 0xd6}})
	if got != (api.State{{0xdb, 0xd4}, {0x13, 0xd4}, {0x53, 0xd4}, {0x45, 0xd5}}) {
		t.Errorf("Unmix: %x", got)
	}
	rows := [4][4]byte{{14, 11, 13, 9}, {9, 14, 11, 13}, {13, 9, 14, 11}, {11, 13, 9, 14}}
	for _, s := range states() {
		if got, want := aes.Unmix(s), slowMix(s, rows); got != want {
			t.Errorf("%x: %x instead of %x", s, got, want)
		}
	}
}

// slowSchedule goes by the words of the document.
func slowSchedule(k api.Key) (keys [11]api.Block) {
	powers := [10]byte{1, 2, 4, 8, 0x10, 0x20, 0x40, 0x80, 0x1b, 0x36}
	var w [44][4]byte
	for i := range w {
		if i < 4 {
			w[i] = [4]byte(k[4*i:])
			continue
		}
		t := w[i-1]
		if i%4 == 0 {
			t = [4]byte{slowSub(t[1]) ^ powers[i/4-1], slowSub(t[2]), slowSub(t[3]), slowSub(t[0])}
		}
		for j := range t {
			w[i][j] = w[i-4][j] ^ t[j]
		}
	}
	for i, x := range w {
		copy(keys[i/4][4*(i%4):], x[:])
	}
	return keys
}

func TestP3_6(t *testing.T) {
	keys := aes.Schedule(key("2b7e151628aed2a6abf7158809cf4f3c"))
	for n, want := range map[int]string{
		0:  "2b7e151628aed2a6abf7158809cf4f3c",
		1:  "a0fafe1788542cb123a339392a6c7605",
		2:  "f2c295f27a96b9435935807a7359f67f",
		9:  "ac7766f319fadc2128d12941575c006e",
		10: "d014f9a8c9ee2589e13f0cc8b6630ca6",
	} {
		if keys[n] != block(want) {
			t.Errorf("the key of round %d: %x instead of %s", n, keys[n], want)
		}
	}
	many := []api.Key{{}, key("ffffffffffffffffffffffffffffffff"), key(plainKey)}
	for n := range 100 {
		many = append(many, counted(n))
	}
	for _, k := range many {
		if got, want := aes.Schedule(k), slowSchedule(k); got != want {
			t.Errorf("%x: %x instead of %x", k, got, want)
		}
	}
}

// slowBehind goes by the words of the document.
func slowBehind(k api.Key, b api.Block, rounds int) api.Block {
	keys := slowSchedule(k)
	s := summed(aes.Spread(b), aes.Spread(keys[0]))
	for n := 1; n <= rounds; n++ {
		s = aes.Shift(aes.SubAll(s))
		if n <= 9 {
			s = aes.Mix(s)
		}
		s = summed(s, aes.Spread(keys[n]))
	}
	return aes.Gather(s)
}

func TestP3_7(t *testing.T) {
	for n, want := range []string{
		"00102030405060708090a0b0c0d0e0f0",
		"89d810e8855ace682d1843d8cb128fe4",
		"4915598f55e5d7a0daca94fa1f0a63f7",
		"fa636a2825b339c940668a3157244d17",
		"247240236966b3fa6ed2753288425b6c",
		"c81677bc9b7ac93b25027992b0261996",
		"c62fe109f75eedc3cc79395d84f9cf5d",
		"d1876c0f79c4300ab45594add66ff41f",
		"fde3bad205e5d0d73547964ef1fe37f1",
		"bd6e7c3df2b5779e0b61216e8b10b689",
		"69c4e0d86a7b0430d8cdb78070b4c55a",
	} {
		if got, e := aes.Behind(key(plainKey), block(plainBlock), n); got != block(want) || e != api.OK {
			t.Errorf("behind %d: %x, %d instead of %s", n, got, e, want)
		}
	}
	for n := range 40 {
		k, b := counted(n), counted(n+1000)
		for rounds := range 11 {
			if got, e := aes.Behind(k, b, rounds); got != slowBehind(k, b, rounds) || e != api.OK {
				t.Errorf("%x, %x behind %d: %x, %d", k, b, rounds, got, e)
			}
		}
	}
}

func TestP3_7Refused(t *testing.T) {
	for _, n := range []int{-1, 11, -10, 12, 256, 266, math.MinInt, math.MaxInt} {
		if got, e := aes.Behind(key(plainKey), block(plainBlock), n); got != (api.Block{}) || e != api.ErrRounds {
			t.Errorf("behind %d: %x, %d", n, got, e)
		}
	}
}

func TestP3_9States(t *testing.T) {
	for _, pair := range []struct {
		what        string
		forth, back func(api.State) api.State
	}{
		{"SubAll", aes.SubAll, aes.UnsubAll},
		{"Shift", aes.Shift, aes.Unshift},
		{"Mix", aes.Mix, aes.Unmix},
	} {
		for _, s := range states() {
			if pair.back(pair.forth(s)) != s || pair.forth(pair.back(s)) != s {
				t.Errorf("%s: %x is not brought back", pair.what, s)
			}
		}
	}
	for _, s := range states() {
		if aes.Spread(aes.Gather(s)) != s {
			t.Errorf("Gather: %x is not brought back", s)
		}
	}
	for n := range 100 {
		if b := api.Block(counted(n)); aes.Gather(aes.Spread(b)) != b {
			t.Errorf("Spread: %x is not brought back", b)
		}
	}
}

func TestP3_12Linear(t *testing.T) {
	all := states()
	for i, s := range all {
		u := all[(i*37+11)%len(all)]
		if aes.Mix(summed(s, u)) != summed(aes.Mix(s), aes.Mix(u)) {
			t.Errorf("Mix of %x and %x", s, u)
		}
		if aes.Shift(summed(s, u)) != summed(aes.Shift(s), aes.Shift(u)) {
			t.Errorf("Shift of %x and %x", s, u)
		}
	}
}

func TestP3_12OneByte(t *testing.T) {
	s := aes.Spread(block(plainBlock))
	for i := range 16 {
		for by := 1; by < 256; by++ {
			other := s
			other[i/4][i%4] ^= byte(by)
			unlike := summed(aes.Mix(s), aes.Mix(other))
			for r := range unlike {
				for c := range unlike[r] {
					if (unlike[r][c] != 0) != (c == i%4) {
						t.Fatalf("byte %d turned by %#x: %x", i, by, unlike)
					}
				}
			}
		}
	}
}
