package post_test

import (
	"runtime"
	"slices"
	"testing"
	"time"

	"strongroom/api"
)

// settled tells whether no more goroutines are there than before: one that has done its last thing may need a moment to be gone.
func settled(before int) bool {
	for range 1000 {
		if runtime.NumGoroutine() <= before {
			return true
		}
		time.Sleep(time.Millisecond)
	}
	return false
}

// TestR4NoGoroutineLeft: none is left behind, whatever becomes of the calls.
func TestR4NoGoroutineLeft(t *testing.T) {
	before := runtime.NumGoroutine()
	fates := []api.Fate{honest(1), lie(1, 6), drop(1), lose(1), {}, honest(11), honest(1000)}
	n := begun(t, make([]api.Store, api.MaxServers), fates, fates, fates, fates)
	for range 200 {
		n.Ask(nil)
		n.Ask([]api.Call{to(0, have(x)), to(1, nil), to(0, have(x)), to(2, []byte{9}), to(31, have(y))})
		n.Ask([]api.Call{to(0, have(x)), to(40, nil)})
		n.Wait(1)
	}
	if !settled(before) {
		t.Errorf("%d goroutines, %d before", runtime.NumGoroutine(), before)
	}
}

// TestR4Runs: however the goroutines run, the answers are the same.
func TestR4Runs(t *testing.T) {
	defer runtime.GOMAXPROCS(runtime.GOMAXPROCS(0))
	var first []api.Exchange
	for run := range 60 {
		runtime.GOMAXPROCS(1 + run%8)
		d := drawn(77)
		stores := make([]api.Store, api.MaxServers)
		for i := range stores {
			stores[i] = d.store()
		}
		n := begun(t, stores, d.fates(len(stores))...)
		var answers []api.Answer
		for range 10 {
			var batch []api.Call
			for range 8 {
				batch = append(batch, d.batch(len(stores), n.Tick())...)
			}
			l, _ := n.Ask(batch)
			answers = append(answers, l...)
		}
		trace := n.Transcript()
		for _, a := range answers { // what was answered, and in which order, stands behind the transcript
			trace = append(trace, api.Exchange{Number: a.Place, Came: a.Came, Tick: a.Tick, Reply: a.Bytes})
		}
		if run == 0 {
			first = trace
		}
		if !slices.EqualFunc(trace, first, sameExchange) {
			t.Fatalf("run %d differs from the first", run)
		}
	}
}
