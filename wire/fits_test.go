package wire_test

import (
	"testing"

	"strongroom/api"
	"strongroom/wire"
)

// answering gives the kinds of replies that answer each kind of request.
func answering(k api.ReqKind) []api.RepKind {
	return [][]api.RepKind{
		api.ReqHave:    {api.RepNumbers, api.RepRefused},
		api.ReqStore:   {api.RepStored, api.RepFull, api.RepOther, api.RepRefused},
		api.ReqFetch:   {api.RepBytes, api.RepNone, api.RepRefused},
		api.ReqRenew:   {api.RepNumbers, api.RepRefused},
		api.ReqRelease: {api.RepNumbers, api.RepRefused},
	}[k]
}

func answers(k api.ReqKind, r api.RepKind) bool {
	for _, kind := range answering(k) {
		if kind == r {
			return true
		}
	}
	return false
}

func TestP20_3Fits(t *testing.T) {
	for _, q := range requests() {
		for _, r := range replies() {
			want := answers(q.request.Kind, r.reply.Kind)
			if r.reply.Kind == api.RepBytes {
				want = want && len(r.reply.Bytes) == q.request.Len
			}
			if wire.Fits(q.request, r.reply) != want {
				t.Errorf("request %s, reply of kind %d: not %v", q.hex[:2], r.reply.Kind, want)
			}
		}
	}
}

func TestP20_3FitsLength(t *testing.T) {
	if wire.Fits(fetch(ones, 0, 0, 2), some(1)) {
		t.Error("the example fits")
	}
	b := counted(api.MaxFetch + 1)
	for _, n := range []int{1, 2, 5, 255, 256, 65536, api.MaxFetch - 1, api.MaxFetch} {
		for _, m := range []int{0, 1, n - 1, n, n + 1, n + 256, api.MaxFetch, api.MaxFetch + 1} {
			m = min(m, len(b))
			if got := wire.Fits(fetch(x, 3, 100, n), some(b[:m]...)); got != (n == m) {
				t.Errorf("%d bytes asked for, %d told: %v", n, m, got)
			}
		}
	}
}

// TestP20_3FitsNone: a request or a reply that may not be fits nothing, not even where its kind would.
func TestP20_3FitsNone(t *testing.T) {
	eachOdd(func(what string, q api.Request, may bool) {
		for _, r := range replies() {
			if !may && wire.Fits(q, r.reply) {
				t.Errorf("%s: a reply of kind %d fits", what, r.reply.Kind)
			}
		}
		if may && !wire.Fits(q, only(api.RepRefused)) {
			t.Errorf("%s: a refusal does not fit", what)
		}
	})
	for kind := range 256 {
		if kind < 1 || kind > 5 {
			if wire.Fits(api.Request{Kind: api.ReqKind(kind)}, only(api.RepRefused)) {
				t.Errorf("a request of kind %d", kind)
			}
		}
	}
	for i, r := range noReplies() {
		for _, q := range append(sound(), fetch(x, 0, 0, max(1, min(len(r.Bytes), api.MaxFetch)))) {
			if wire.Fits(q, r) {
				t.Errorf("reply %d, kind %d, fits a request of kind %d", i, r.Kind, q.Kind)
			}
		}
	}
	// The length is that which was asked for, but neither may be.
	if wire.Fits(fetch(x, 0, 0, 0), some()) || wire.Fits(fetch(x, 0, 0, api.MaxFetch+1), some(counted(api.MaxFetch+1)...)) {
		t.Error("a fetch that may not be has a reply that fits")
	}
}
