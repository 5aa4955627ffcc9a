package piece

import (
	"strongroom/api"
	"strongroom/share"
	"strongroom/wire"
)

// fetch gives the request for a stretch of the share.
func (p *Piece) fetch(at, n int) api.Request {
	return api.Request{Kind: api.ReqFetch, Index: p.verify.Index, Number: p.number, At: at, Len: n}
}

func (p *Piece) frontFetch() api.Request {
	n, _ := share.FrontLen(p.shape) // the shape fits
	return p.fetch(0, n)
}

func (p *Piece) blockFetch(segment int) api.Request {
	at, n, _ := share.Place(p.shape, segment) // the shape fits and has the segment
	return p.fetch(at, n)
}

// laid gives a fetch's bytes. It may be, whatever the shape: no front and no block is longer than what one request may fetch.
func laid(fetch api.Request) []byte {
	b, _ := wire.PutRequest(fetch)
	return b
}

// brings asks whether a reply brings the bytes that were to be fetched, and lays them into their place.
func brings(b *[]byte, fetch api.Request, reply []byte) question {
	return must(api.ErrAnswer, func() bool {
		r, _, e := wire.Reply(reply)
		*b = r.Bytes
		return e == api.OK && wire.Fits(fetch, r) && r.Kind == api.RepBytes
	})
}
