package put

import (
	"slices"

	"strongroom/api"
	"strongroom/post"
	"strongroom/wire"
)

// Place stores shares, by number, where they are tried; which lie where behind it, and which lie nowhere.
func Place(n *post.Net, x api.Index, shares [][]byte, tries []api.Try, l api.Lease) ([]api.Pair, []int, api.Errno) {
	if e := noNet(n); e != api.OK {
		return nil, nil, e
	}
	if !mayTry(tries, len(shares), n.Servers()) {
		return nil, nil, api.ErrTries
	}
	requests, e := requestsOf(x, shares, tries, l)
	if e != api.OK {
		return nil, nil, e
	}
	p := &placing{net: n, tries: tries, requests: requests, on: slices.Repeat([]int{nowhere}, len(tries))}
	p.rounds()
	placed, lacking := p.told()
	return placed, lacking, api.OK
}

// mayTry tells whether the tries go with so many shares and servers.
func mayTry(tries []api.Try, shares, servers int) bool {
	var numbers []int
	for _, t := range tries {
		if !allUnlike(t.Servers, servers) {
			return false
		}
		numbers = append(numbers, t.Number)
	}
	return allUnlike(numbers, shares)
}

// allUnlike tells whether numbers are from 0 on, below an end, and none of them is there twice.
func allUnlike(numbers []int, end int) bool {
	seen := make([]bool, end)
	for _, x := range numbers {
		if x < 0 || x >= end || seen[x] {
			return false
		}
		seen[x] = true
	}
	return true
}

// requestsOf gives the request of each try.
func requestsOf(x api.Index, shares [][]byte, tries []api.Try, l api.Lease) ([][]byte, api.Errno) {
	requests := make([][]byte, len(tries))
	for i, t := range tries {
		b, e := wire.PutRequest(api.Request{Kind: api.ReqStore, Index: x, Number: t.Number, Lease: l, Bytes: shares[t.Number]})
		if e != api.OK {
			return nil, api.ErrArg
		}
		requests[i] = b
	}
	return requests, api.OK
}

// placing is shares on their way to servers: those of the tries, each by its try's place.
type placing struct {
	net      *post.Net
	tries    []api.Try
	requests [][]byte
	on       []int // the server on which it is stored, or nowhere
}

const nowhere = -1

// rounds hands the shares out, each to one more of its servers a round, until all are stored or have none left. No try has more servers than the net has; and where one round has no calls, those behind it have none, either.
func (p *placing) rounds() {
	left := len(p.tries)
rounds:
	for r := range p.net.Servers() {
		stored := p.round(r)
		for i, t := range p.tries {
			if stored[i] {
				p.on[i] = t.Servers[r]
				left--
			}
			if left == 0 {
				break rounds
			}
		}
	}
}

// round makes the calls of a round; which shares are stored by it.
func (p *placing) round(r int) []bool {
	var batch []api.Call
	var places []int // whose call it is
	for i, t := range p.tries {
		if p.on[i] == nowhere && r < len(t.Servers) {
			batch = append(batch, api.Call{Server: t.Servers[r], Bytes: p.requests[i]})
			places = append(places, i)
		}
	}
	answers, _ := p.net.Ask(batch) // all are the net's servers, and so nobody refuses it
	stored := make([]bool, len(p.tries))
	for _, a := range answers {
		stored[places[a.Place]] = a.Came && tellsStored(a.Bytes)
	}
	return stored
}

// tellsStored tells whether a reply says that the share is there.
func tellsStored(reply []byte) bool {
	r, _, e := wire.Reply(reply)
	return e == api.OK && r.Kind == api.RepStored
}

// told gives what is stored, and the numbers of what is not.
func (p *placing) told() ([]api.Pair, []int) {
	var placed []api.Pair
	var lacking []int
	for i, t := range p.tries {
		if p.on[i] == nowhere {
			lacking = append(lacking, t.Number)
		} else {
			placed = append(placed, api.Pair{Server: p.on[i], Number: t.Number})
		}
	}
	return placed, lacking
}
