package server

import (
	"bytes"
	"cmp"
	"slices"

	"strongroom/api"
)

// State tells all that the server holds.
func (s *Server) State() api.Store {
	if !s.made() {
		return api.Store{}
	}
	var kept []api.Kept
	for at, h := range s.kept {
		kept = append(kept, api.Kept{
			Index:  at.index,
			Number: at.number,
			Bytes:  bytes.Clone(h.bytes),
			Leases: slices.Clone(h.leases),
		})
	}
	slices.SortFunc(kept, bySpot)
	return api.Store{Room: s.room, Tick: s.tick, Kept: kept}
}

func bySpot(a, b api.Kept) int {
	return cmp.Or(bytes.Compare(a.Index[:], b.Index[:]), cmp.Compare(a.Number, b.Number))
}

// Load makes a server that holds a state.
func Load(s api.Store) (*Server, api.Errno) {
	if !mayStore(s) {
		return nil, api.ErrStored
	}
	loaded := empty(s.Room, s.Tick)
	for _, k := range s.Kept {
		loaded.keep(spot{k.Index, k.Number}, k.Bytes, k.Leases...)
	}
	return loaded, api.OK
}

// mayStore tells whether some server could hold just this.
func mayStore(s api.Store) bool {
	used := 0
	for i, k := range s.Kept {
		if i > 0 && bySpot(s.Kept[i-1], k) >= 0 || !mayKeep(k, s.Tick) {
			return false
		}
		used += len(k.Bytes)
	}
	return isRoom(s.Room) && isTick(s.Tick) && used <= s.Room
}

// mayKeep tells whether a server could have this share at a tick.
func mayKeep(k api.Kept, tick int) bool {
	return isNumber(k.Number) && len(k.Bytes) <= api.MaxShare && mayLease(k.Leases, tick)
}

// mayLease tells whether these could be the leases on a share at a tick.
func mayLease(leases []api.Lease, tick int) bool {
	if len(leases) < 1 || len(leases) > api.MaxLeases {
		return false
	}
	for i, l := range leases {
		if i > 0 && leases[i-1].Who >= l.Who || !isTick(l.Until) || !runs(l, tick) {
			return false
		}
	}
	return true
}
