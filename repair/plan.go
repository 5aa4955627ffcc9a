package repair

import (
	"slices"

	"strongroom/api"
	"strongroom/put"
)

// Plan tells which numbers lack, and on which servers each of them is tried, in order.
func Plan(v api.Verify, servers int, good, bad []api.Pair) ([]api.Try, api.Errno) {
	if _, e := shapeOf(v); e != api.OK {
		return nil, e
	}
	if !within(good, servers, v.N) || !within(bad, servers, v.N) {
		return nil, api.ErrArg
	}
	all, e := put.Plan(v.Index, v.N, servers)
	if e != api.OK {
		return nil, e
	}
	there, spoilt := map[int]struct{}{}, map[api.Pair]struct{}{}
	for _, p := range good {
		there[p.Number] = struct{}{}
	}
	for _, p := range bad {
		spoilt[p] = struct{}{}
	}
	var tries []api.Try
	for _, t := range all {
		if _, is := there[t.Number]; is {
			continue
		}
		// Who has something else under the number would refuse the share.
		t.Servers = slices.DeleteFunc(t.Servers, func(server int) bool {
			_, is := spoilt[api.Pair{Server: server, Number: t.Number}]
			return is
		})
		tries = append(tries, t)
	}
	return tries, api.OK
}

// within tells whether all pairs are of so many servers and numbers.
func within(pairs []api.Pair, servers, numbers int) bool {
	for _, p := range pairs {
		if p.Server < 0 || p.Server >= servers || p.Number < 0 || p.Number >= numbers {
			return false
		}
	}
	return true
}
