// Package candidates finds the shares of which servers tell, as reads and checks begin: see shared/doc/DOC.md, 'The net'. It is no layer: it is what layers above ring and wire have in common.
package candidates

import (
	"slices"

	"strongroom/api"
	"strongroom/ring"
	"strongroom/wire"
)

// Net is whoever can be asked as post's nets can.
type Net interface {
	Servers() int
	Ask(batch []api.Call) ([]api.Answer, api.Errno)
}

// Find asks all servers which share numbers below n they have under an index: the pairs, server by server in the order of the ring, and the servers that do not tell, rising.
func Find(from Net, x api.Index, n int) ([]api.Pair, []int, api.Errno) {
	if from.Servers() == 0 {
		return nil, nil, api.OK
	}
	order, e := ring.Order(x, from.Servers())
	if e != api.OK {
		return nil, nil, e
	}
	replies, e := haves(from, x, order)
	if e != api.OK {
		return nil, nil, e
	}
	var pairs []api.Pair
	var silent []int
	for i, server := range order {
		if replies[i].Kind != api.RepNumbers {
			silent = append(silent, server)
			continue
		}
		for _, number := range replies[i].Numbers { // they rise, and each is there once, or it were no reply
			if number < n {
				pairs = append(pairs, api.Pair{Server: server, Number: number})
			}
		}
	}
	slices.Sort(silent)
	return pairs, silent, api.OK
}

// haves asks servers what they have under an index; their replies in the same order, zero where none came that is one.
func haves(from Net, x api.Index, servers []int) ([]api.Reply, api.Errno) {
	have, _ := wire.PutRequest(api.Request{Kind: api.ReqHave, Index: x}) // of every index it may be
	batch := make([]api.Call, len(servers))
	for i, s := range servers {
		batch[i] = api.Call{Server: s, Bytes: have}
	}
	answers, e := from.Ask(batch)
	if e != api.OK {
		return nil, e
	}
	replies := make([]api.Reply, len(servers))
	for _, a := range answers {
		if a.Came {
			replies[a.Place], _, _ = wire.Reply(a.Bytes)
		}
	}
	return replies, api.OK
}
