package check

import (
	"strongroom/api"
	"strongroom/candidates"
	"strongroom/piece"
	"strongroom/post"
)

// look is a look at a file's shares on its way.
type look struct {
	net    *post.Net
	verify api.Verify
	shape  api.Shape
	keeps  bool // the blocks that are taken: they are many, and not every look is asked for them
	shares []*held
	silent []int // the servers that do not tell what they have
}

// held is a share that a server says it has, and what is known of it.
type held struct {
	*piece.Piece
	pair   api.Pair
	mute   bool     // one of its requests got no reply
	blocks [][]byte // those that were kept, by segment
}

// begin begins a look; nobody was asked anything yet.
func begin(n *post.Net, v api.Verify) (*look, api.Errno) {
	if e := noNet(n); e != api.OK {
		return nil, e
	}
	s, e := shapeOf(v)
	if e != api.OK {
		return nil, e
	}
	return &look{net: n, verify: v, shape: s}, api.OK
}

// noNet refuses what is no net: a net lets no ticks go by, and nothing comes of it.
func noNet(n *post.Net) api.Errno { return n.Wait(0) }

// run looks at all that servers tell of.
func (l *look) run() {
	l.find()
	l.ask(l.shares, frontBatch{}.next, frontBatch{}.take)
	for j := range l.shape.Segs {
		b := blockBatch{segment: j, keeps: l.keeps}
		l.ask(l.open(), b.next, b.take)
	}
}

// find finds the candidates.
func (l *look) find() {
	pairs, silent, _ := candidates.Find(l.net, l.verify.Index, l.shape.N) // a net does not refuse to ask its own servers
	l.silent = silent
	for _, pair := range pairs {
		p, _ := piece.New(l.verify, pair.Number) // the capability may be, and has that number
		l.shares = append(l.shares, &held{Piece: p, pair: pair})
	}
}

// open gives the shares of which more is to be asked.
func (l *look) open() []*held {
	var open []*held
	for _, h := range l.shares {
		if h.Stage() == api.StageOpen && !h.mute {
			open = append(open, h)
		}
	}
	return open
}

// ask makes a batch of what each of some shares asks for next, and has the replies that come taken.
func (l *look) ask(shares []*held, next func(*held) []byte, take func(*held, []byte)) {
	batch := make([]api.Call, len(shares))
	for i, h := range shares {
		batch[i] = api.Call{Server: h.pair.Server, Bytes: next(h)}
	}
	answers, _ := l.net.Ask(batch) // nor does it here
	for _, a := range answers {
		h := shares[a.Place]
		if a.Came {
			take(h, a.Bytes)
		} else {
			h.mute = true
		}
	}
}

// told puts together what the look has come to.
func (l *look) told() (api.Checked, api.Errno) {
	var good, bad []api.Pair
	for _, h := range l.shares {
		if h.Stage() == api.StageWhole {
			good = append(good, h.pair)
		} else {
			bad = append(bad, h.pair)
		}
	}
	return Tell(l.verify, good, bad, l.silent)
}

// kept gives the blocks that were kept of the good shares.
func (l *look) kept() [][][]byte {
	var kept [][][]byte
	for _, h := range l.shares {
		if h.Stage() == api.StageWhole {
			kept = append(kept, h.blocks)
		}
	}
	return kept
}
