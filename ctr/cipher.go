package ctr

import "strongroom/api"

// Cipher enciphers piece by piece.
type Cipher struct {
	made bool // tells a cipher of a key of noughts from one that New did not make
	key  api.Key
	at   int
}

// New makes a cipher at the place 0.
func New(key api.Key) *Cipher { return &Cipher{made: true, key: key} }

// Seek goes to a place.
func (c *Cipher) Seek(at int) api.Errno {
	if c == nil || !c.made {
		return api.ErrNil
	}
	if !within(at, 0) {
		return api.ErrPlace
	}
	c.at = at
	return api.OK
}

// At tells the place.
func (c *Cipher) At() int {
	if c == nil {
		return 0
	}
	return c.at
}

// Next gives bytes enciphered that stand from the place on, and goes behind them.
func (c *Cipher) Next(b []byte) ([]byte, api.Errno) {
	if c == nil || !c.made {
		return nil, api.ErrNil
	}
	out, e := Apply(c.key, c.at, b)
	if e != api.OK {
		return nil, e
	}
	c.at += len(b)
	return out, api.OK
}
