package proof

import (
	"strongroom/api"
	"strongroom/tag"
)

// laid tells, by a node's number, whether the node was laid in among the known ones by the Put that is under way.
type laid []bool

// none gives the nodes that are laid in when a Put begins.
func (p *Proof) none() laid { return make(laid, 2*p.width) }

// Put takes nodes, all or none.
func (p *Proof) Put(nodes []api.Node) api.Errno {
	if !p.made() {
		return api.ErrNil
	}
	in, refused := p.none(), true
	defer func() {
		for at, is := range in {
			if is && refused {
				delete(p.known, at)
			}
		}
	}()
	if e := p.lay(in, nodes); e != api.OK {
		return e
	}
	if e := p.rise(in); e != api.OK {
		return e
	}
	if p.loose(in) {
		return api.ErrLoose
	}
	refused = false
	return api.OK
}

// hold lays a node in, if it is not at hand, and tells whether it has that digest now.
func (p *Proof) hold(in laid, at int, d api.Digest) bool {
	if !p.knows(at) {
		p.known[at], in[at] = d, true
	}
	return p.known[at] == d
}

// lay takes the nodes of a list.
func (p *Proof) lay(in laid, nodes []api.Node) api.Errno {
	for _, n := range nodes {
		if n.At < 1 || n.At >= 2*p.width {
			return api.ErrNoNode
		}
		if !p.hold(in, n.At, n.Digest) {
			return api.ErrOther
		}
	}
	return api.OK
}

// rise goes from the lowest parents up to the root: who has both children at hand must have their digest.
func (p *Proof) rise(in laid) api.Errno {
	for x := p.width - 1; x >= 1; x-- {
		left, right := 2*x, 2*x+1
		if !p.knows(left) || !p.knows(right) {
			continue
		}
		// Three that were known ahead have been held against each other already.
		if p.knows(x) && !in[x] && !in[left] && !in[right] {
			continue
		}
		if !p.hold(in, x, tag.Node(p.known[left], p.known[right])) {
			return api.ErrFalse
		}
	}
	return api.OK
}

// loose tells whether a node that was laid in is held to nothing.
func (p *Proof) loose(in laid) bool {
	for at, is := range in {
		// Where the brother is at hand rise has seen to it that the parent is, too. The root, which has none, is never laid in.
		if is && !p.knows(at^1) {
			return true
		}
	}
	return false
}
