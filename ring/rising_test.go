package ring

import (
	"slices"
	"testing"

	"strongroom/api"
)

func wantRising(t *testing.T, digests []api.Digest, want ...int) {
	t.Helper()
	was := slices.Clone(digests)
	if got := rising(digests); !slices.Equal(got, want) {
		t.Errorf("rising(%x): %v instead of %v", digests, got, want)
	}
	if !slices.Equal(digests, was) {
		t.Errorf("rising(%x) changed what it was handed", was)
	}
}

func TestP22_1LesserNumberFirst(t *testing.T) {
	low, mid, high := api.Digest{1}, api.Digest{2}, api.Digest{3}
	wantRising(t, []api.Digest{mid, mid}, 0, 1)
	wantRising(t, []api.Digest{mid, low, mid}, 1, 0, 2)
	wantRising(t, []api.Digest{high, mid, high, mid, low}, 4, 1, 3, 0, 2)

	// So many that a way of sorting which leaves alike ones in any order would be found out.
	many := make([]api.Digest, api.MaxServers)
	var first, second []int
	for i := range many {
		many[i] = mid
		if i%2 == 0 {
			many[i] = high
			second = append(second, i)
		} else {
			first = append(first, i)
		}
	}
	wantRising(t, many, append(first, second...)...)
	alike := slices.Repeat([]api.Digest{high}, api.MaxServers)
	wantRising(t, alike, slices.Sorted(slices.Values(append(first, second...)))...)
}

func TestP22_1ByteByByte(t *testing.T) {
	wantRising(t, nil)
	wantRising(t, []api.Digest{{}}, 0)
	for at := range len(api.Digest{}) {
		var low, high api.Digest
		low[at], high[at] = 127, 128 // as a number with a sign 128 would be the lesser one
		wantRising(t, []api.Digest{high, low}, 1, 0)
		wantRising(t, []api.Digest{low, high}, 0, 1)
		if at > 0 {
			low[0] = 1 // an earlier byte outweighs all later ones
			wantRising(t, []api.Digest{low, high}, 1, 0)
			low[0], low[at-1] = 0, 1
			wantRising(t, []api.Digest{low, high}, 1, 0)
		}
	}
}
