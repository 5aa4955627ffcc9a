package server

import (
	"bytes"

	"strongroom/api"
)

// May tells whether a request may be.
func May(r api.Request) bool {
	noNumber, noStretch := r.Number == 0, r.At == 0 && r.Len == 0
	noLease, noBytes := r.Lease == api.Lease{}, len(r.Bytes) == 0
	switch r.Kind {
	case api.ReqHave:
		return noNumber && noStretch && noLease && noBytes
	case api.ReqStore:
		return isNumber(r.Number) && noStretch && isTick(r.Lease.Until) && len(r.Bytes) <= api.MaxShare
	case api.ReqFetch:
		return isNumber(r.Number) && isStretch(r.At, r.Len) && noLease && noBytes
	case api.ReqRenew:
		return noNumber && noStretch && isTick(r.Lease.Until) && noBytes
	case api.ReqRelease:
		return noNumber && noStretch && r.Lease.Until == 0 && noBytes
	}
	return false
}

func isNumber(n int) bool { return n >= 0 && n < api.MaxN }

func isStretch(at, n int) bool {
	return at >= 0 && at <= api.MaxShare && n >= 1 && n <= api.MaxFetch
}

func laysLease(k api.ReqKind) bool { return k == api.ReqStore || k == api.ReqRenew }

// deeds gives what is done for each kind of request that may be.
func (s *Server) deeds() map[api.ReqKind]func(api.Request) api.Reply {
	return map[api.ReqKind]func(api.Request) api.Reply{
		api.ReqHave:    s.have,
		api.ReqStore:   s.store,
		api.ReqFetch:   s.fetch,
		api.ReqRenew:   s.renew,
		api.ReqRelease: s.release,
	}
}

func (s *Server) have(r api.Request) api.Reply {
	return api.Reply{Kind: api.RepNumbers, Numbers: s.numbers(r.Index, anyShare)}
}

func (s *Server) store(r api.Request) api.Reply {
	at := spot{r.Index, r.Number}
	h, is := s.kept[at]
	switch {
	case !is && s.used+len(r.Bytes) > s.room:
		return api.Reply{Kind: api.RepFull}
	case !is:
		s.keep(at, r.Bytes, r.Lease)
	case !bytes.Equal(h.bytes, r.Bytes):
		return api.Reply{Kind: api.RepOther}
	case !h.takesLease(r.Lease.Who):
		return api.Reply{Kind: api.RepFull}
	default:
		h.layLease(r.Lease)
	}
	return api.Reply{Kind: api.RepStored}
}

func (s *Server) fetch(r api.Request) api.Reply {
	h, is := s.kept[spot{r.Index, r.Number}]
	if !is || len(h.bytes) < r.At+r.Len {
		return api.Reply{Kind: api.RepNone}
	}
	return api.Reply{Kind: api.RepBytes, Bytes: bytes.Clone(h.bytes[r.At : r.At+r.Len])}
}

// leased gives the numbers of the shares under the request's index that have a lease of its Who.
func (s *Server) leased(r api.Request) []int {
	return s.numbers(r.Index, func(h *held) bool { return h.hasLease(r.Lease.Who) })
}

func (s *Server) renew(r api.Request) api.Reply {
	numbers := s.leased(r)
	for _, n := range numbers {
		s.kept[spot{r.Index, n}].layLease(r.Lease)
	}
	return api.Reply{Kind: api.RepNumbers, Numbers: numbers}
}

func (s *Server) release(r api.Request) api.Reply {
	numbers := s.leased(r)
	s.endLeases(func(at spot, l api.Lease) bool { return at.index == r.Index && l.Who == r.Lease.Who })
	return api.Reply{Kind: api.RepNumbers, Numbers: numbers}
}
