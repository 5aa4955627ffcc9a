package wire

import "strongroom/api"

// mayRequest tells whether a request may be: what its kind does not have must be zero or empty.
func mayRequest(r api.Request) bool {
	noNumber, noStretch := r.Number == 0, r.At == 0 && r.Len == 0
	noLease, noBytes := r.Lease == api.Lease{}, len(r.Bytes) == 0
	switch r.Kind {
	case api.ReqHave:
		return noNumber && noStretch && noLease && noBytes
	case api.ReqStore:
		return isNumber(r.Number) && noStretch && isTick(r.Lease.Until) && isShareLen(len(r.Bytes))
	case api.ReqFetch:
		return isNumber(r.Number) && isAt(r.At) && isFetchLen(r.Len) && noLease && noBytes
	case api.ReqRenew:
		return noNumber && noStretch && isTick(r.Lease.Until) && noBytes
	case api.ReqRelease:
		return noNumber && noStretch && r.Lease.Until == 0 && noBytes
	}
	return false
}

// mayReply tells whether a reply may be.
func mayReply(r api.Reply) bool {
	noNumbers, noBytes := len(r.Numbers) == 0, len(r.Bytes) == 0
	switch r.Kind {
	case api.RepNumbers:
		return rise(r.Numbers) && noBytes
	case api.RepBytes:
		return noNumbers && isFetchLen(len(r.Bytes))
	}
	return isReply(r.Kind) && noNumbers && noBytes
}

func isRequest(k api.ReqKind) bool { return k >= api.ReqHave && k <= api.ReqRelease }

func isReply(k api.RepKind) bool { return k >= api.RepNumbers && k <= api.RepRefused }

func isNumber(n int) bool { return n >= 0 && n < api.MaxN }

func isTick(tick int) bool { return tick >= 0 && tick <= api.MaxTick }

func isAt(at int) bool { return at >= 0 && at <= api.MaxShare }

func isShareLen(n int) bool { return n >= 0 && n <= api.MaxShare }

func isFetchLen(n int) bool { return n >= 1 && n <= api.MaxFetch }

// rise tells whether numbers may be a reply's. That there are at most MaxN of them follows, since none comes twice.
func rise(numbers []int) bool {
	for i, n := range numbers {
		if !follows(numbers[:i], n) {
			return false
		}
	}
	return true
}

// follows tells whether a number may stand behind others.
func follows(ahead []int, n int) bool {
	return isNumber(n) && (len(ahead) == 0 || n > ahead[len(ahead)-1])
}
