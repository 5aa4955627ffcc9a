package server

import (
	"bytes"
	"cmp"
	"slices"

	"strongroom/api"
)

// held is a share that is there: its leases rise by Who, and all of them run at the server's tick.
type held struct {
	bytes  []byte
	leases []api.Lease
}

func newHeld(b []byte, leases []api.Lease) *held {
	return &held{bytes: bytes.Clone(b), leases: slices.Clone(leases)}
}

func anyShare(*held) bool { return true }

func runs(l api.Lease, tick int) bool { return tick <= l.Until }

// find gives the place at which the lease of somebody stands, or would stand.
func (h *held) find(who uint32) (int, bool) {
	return slices.BinarySearchFunc(h.leases, who, func(l api.Lease, who uint32) int { return cmp.Compare(l.Who, who) })
}

func (h *held) hasLease(who uint32) bool {
	_, is := h.find(who)
	return is
}

// takesLease tells whether a lease of somebody can be laid on the share.
func (h *held) takesLease(who uint32) bool {
	return len(h.leases) < api.MaxLeases || h.hasLease(who)
}

func (h *held) layLease(l api.Lease) {
	at, is := h.find(l.Who)
	if is {
		h.leases[at].Until = max(h.leases[at].Until, l.Until)
		return
	}
	h.leases = slices.Insert(h.leases, at, l)
}

func (h *held) endLeases(over func(api.Lease) bool) {
	h.leases = slices.DeleteFunc(h.leases, over)
}
