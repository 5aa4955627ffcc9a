package aes

import "strongroom/api"

// Cipher has the keys of one key's rounds.
type Cipher struct {
	keys [api.Rounds + 1]api.Block
}

// New makes the cipher of a key.
func New(k api.Key) *Cipher { return &Cipher{Schedule(k)} }

// made holds the keys against noughts, which are no key's rounds: behind a key of noughts round 1 has others.
func (c *Cipher) made() bool { return c != nil && c.keys != [api.Rounds + 1]api.Block{} }

// Encrypt enciphers a block.
func (c *Cipher) Encrypt(b api.Block) (api.Block, api.Errno) {
	if !c.made() {
		return api.Block{}, api.ErrNil
	}
	return forth(c.keys, b, api.Rounds), api.OK
}

// Decrypt deciphers a block.
func (c *Cipher) Decrypt(b api.Block) (api.Block, api.Errno) {
	if !c.made() {
		return api.Block{}, api.ErrNil
	}
	return back(c.keys, b), api.OK
}
