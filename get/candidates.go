package get

import (
	"strongroom/api"
	"strongroom/ring"
	"strongroom/wire"
)

// candidate is a share number that a server says it has.
type candidate struct {
	api.Pair
	taken bool
}

// candidatesOf asks all servers, in the order of the ring, which share numbers below n they have under an index.
func candidatesOf(from asked, x api.Index, n int) ([]candidate, api.Errno) {
	if from.Servers() == 0 {
		return nil, api.OK
	}
	order, e := ring.Order(x, from.Servers())
	if e != api.OK {
		return nil, e
	}
	have, _ := wire.PutRequest(api.Request{Kind: api.ReqHave, Index: x}) // of every index it may be
	batch := make([]api.Call, len(order))
	for i, s := range order {
		batch[i] = api.Call{Server: s, Bytes: have}
	}
	answers, e := from.Ask(batch)
	if e != api.OK {
		return nil, e
	}
	said := make([][]int, len(order))
	for _, a := range answers {
		said[a.Place] = numbersOf(a)
	}
	var found []candidate
	for i, numbers := range said {
		for _, number := range numbers {
			if number < n {
				found = append(found, candidate{Pair: api.Pair{Server: order[i], Number: number}})
			}
		}
	}
	return found, api.OK
}

// numbersOf gives the numbers that an answer tells: they rise, and each is there once, or it is no reply.
func numbersOf(a api.Answer) []int {
	if !a.Came {
		return nil
	}
	r, _, e := wire.Reply(a.Bytes)
	if e != api.OK || r.Kind != api.RepNumbers {
		return nil
	}
	return r.Numbers
}
