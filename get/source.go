package get

import (
	"slices"

	"strongroom/api"
	"strongroom/cut"
	"strongroom/recipe"
	"strongroom/ueb"
)

// source is what is read: a capability that may be, what is left of it without its key, and how its file is cut.
type source struct {
	capability api.Read
	verify     api.Verify
	shape      api.Shape
}

func sourceOf(c api.Read) (source, api.Errno) {
	v, e := recipe.Weaken(c)
	if e != api.OK {
		return source{}, e
	}
	shape, e := cut.Again(c.K, c.N, c.Seg, c.Size)
	return source{c, v, shape}, e
}

// sourceAmong refuses also what is no number of servers.
func sourceAmong(c api.Read, servers int) (source, api.Errno) {
	s, e := sourceOf(c)
	if e == api.OK && (servers < 1 || servers > api.MaxServers) {
		e = api.ErrArg
	}
	return s, e
}

// read reads the segments from one number to another, both in.
func (s source) read(from asked, first, last int) (got api.Got, e api.Errno) {
	before := from.Made()
	// What was asked is told of a read that comes to nothing, too.
	defer func() { got.Requests = from.Made() - before }()
	r, e := begin(s, from)
	if e != api.OK {
		return api.Got{}, e
	}
	if e := r.segments(first, last); e != api.OK {
		return api.Got{}, e
	}
	u, _ := r.used[0].Ueb() // the front of each piece in use was taken
	if len(r.segs) == s.shape.Segs && !r.rooted(u.Segs) {
		return api.Got{}, api.ErrWrong
	}
	// Neither refuses: the Ueb binds a file of this shape, and the segments lie within it.
	bound, _ := ueb.Write(u)
	file, _ := recipe.Open(s.capability, first*s.shape.Seg, slices.Concat(r.segs...))
	return api.Got{Ueb: bound, First: first, Segs: r.segs, File: file}, api.OK
}
