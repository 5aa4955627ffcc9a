package aes_test

import (
	standard "crypto/aes"
	"testing"

	"strongroom/aes"
	"strongroom/api"
)

func encrypt(t *testing.T, c *aes.Cipher, b api.Block) api.Block {
	t.Helper()
	out, e := c.Encrypt(b)
	if e != api.OK {
		t.Fatalf("Encrypt: %d", e)
	}
	return out
}

func decrypt(t *testing.T, c *aes.Cipher, b api.Block) api.Block {
	t.Helper()
	out, e := c.Decrypt(b)
	if e != api.OK {
		t.Fatalf("Decrypt: %d", e)
	}
	return out
}

func TestP3_8Examples(t *testing.T) {
	for _, c := range [][3]string{
		{plainKey, plainBlock, "69c4e0d86a7b0430d8cdb78070b4c55a"},
		{"2b7e151628aed2a6abf7158809cf4f3c", "3243f6a8885a308d313198a2e0370734", "3925841d02dc09fbdc118597196a0b32"},
		{"00000000000000000000000000000000", "00000000000000000000000000000000", "66e94bd4ef8a2c3b884cfa59ca342b2e"},
	} {
		cipher := aes.New(key(c[0]))
		for range 2 {
			if got := encrypt(t, cipher, block(c[1])); got != block(c[2]) {
				t.Errorf("key %s, block %s: %x instead of %s", c[0], c[1], got, c[2])
			}
			if got := decrypt(t, cipher, block(c[2])); got != block(c[1]) {
				t.Errorf("key %s, block %s: %x instead of %s", c[0], c[2], got, c[1])
			}
		}
	}
}

func TestP3_8AsTheStandard(t *testing.T) {
	for n := range 200 {
		k := counted(n)
		theirs, err := standard.NewCipher(k[:])
		if err != nil {
			t.Fatal(err)
		}
		ours := aes.New(k)
		for m := range 10 {
			b := counted(1000*m + n + 7)
			var there, back [16]byte
			theirs.Encrypt(there[:], b[:])
			theirs.Decrypt(back[:], b[:])
			if encrypt(t, ours, b) != there || decrypt(t, ours, b) != back {
				t.Errorf("key %x, block %x", k, b)
			}
			if behind, e := aes.Behind(k, b, api.Rounds); behind != there || e != api.OK {
				t.Errorf("key %x, block %x: behind all rounds %x, %d", k, b, behind, e)
			}
		}
	}
}

func TestP3_8CiphersApart(t *testing.T) {
	k := key(plainKey)
	first, second := aes.New(k), aes.New(api.Key{})
	k[0] = 99
	if got := encrypt(t, second, api.Block{}); got != block("66e94bd4ef8a2c3b884cfa59ca342b2e") {
		t.Errorf("the second: %x", got)
	}
	if got := encrypt(t, first, block(plainBlock)); got != block("69c4e0d86a7b0430d8cdb78070b4c55a") {
		t.Errorf("the first: %x", got)
	}
}

func TestP3_8NotMade(t *testing.T) {
	var none *aes.Cipher
	for what, c := range map[string]*aes.Cipher{"nil": none, "a zero cipher": {}, "one of new": new(aes.Cipher)} {
		for range 2 {
			for _, b := range []api.Block{{}, block(plainBlock)} {
				if got, e := c.Encrypt(b); got != (api.Block{}) || e != api.ErrNil {
					t.Errorf("%s: Encrypt: %x, %d", what, got, e)
				}
				if got, e := c.Decrypt(b); got != (api.Block{}) || e != api.ErrNil {
					t.Errorf("%s: Decrypt: %x, %d", what, got, e)
				}
			}
		}
	}
}

func TestP3_11(t *testing.T) {
	keys := []api.Key{{}, key("ffffffffffffffffffffffffffffffff"), key(plainKey), counted(1), counted(2)}
	for _, k := range keys {
		c := aes.New(k)
		seen := map[api.Block]api.Block{}
		take := func(b api.Block) {
			there := encrypt(t, c, b)
			if decrypt(t, c, there) != b || encrypt(t, c, decrypt(t, c, b)) != b {
				t.Errorf("key %x: %x is not brought back", k, b)
			}
			if other, known := seen[there]; known && other != b {
				t.Errorf("key %x: %x and %x are enciphered alike", k, b, other)
			}
			seen[there] = b
		}
		take(api.Block{})
		for bit := range 128 {
			b := block(plainBlock)
			b[bit/8] ^= 1 << (bit % 8)
			take(b)
		}
		for n := range 200 {
			take(counted(n))
		}
	}
}
