package get

import (
	"strongroom/api"
	"strongroom/candidates"
)

// candidate is a share number that a server says it has.
type candidate struct {
	api.Pair
	taken bool
}

// candidatesOf finds the candidates of an index, none of which was taken yet.
func candidatesOf(from asked, x api.Index, n int) ([]candidate, api.Errno) {
	pairs, _, e := candidates.Find(from, x, n) // a read takes no heed of who is silent
	found := make([]candidate, len(pairs))
	for i, p := range pairs {
		found[i].Pair = p
	}
	return found, e
}
