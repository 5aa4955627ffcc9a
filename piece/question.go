package piece

import "strongroom/api"

// question looks for one thing that a call must find, and says which error it is if it is not there.
type question func() api.Errno

// ask puts one question after the other: the first that fails says which error it is, and none behind it is put.
func ask(questions ...question) api.Errno {
	for _, q := range questions {
		if e := q(); e != api.OK {
			return e
		}
	}
	return api.OK
}

// must makes a question of what must hold.
func must(e api.Errno, holds func() bool) question {
	return func() api.Errno {
		if !holds() {
			return e
		}
		return api.OK
	}
}

// use is what a call uses a piece for.
type use int

const (
	toOpen use = iota // the front is asked for and taken
	toTake            // blocks are asked for and taken
	toTell            // something is told of the front
)

func (p *Piece) made() bool { return p != nil && p.self == p }

// exists asks whether New made the piece: nothing else may be asked ahead of it.
func (p *Piece) exists() question { return must(api.ErrNil, p.made) }

// due asks whether a use is due at the piece's stage.
func (p *Piece) due(u use) question {
	return must(api.ErrOrder, func() bool {
		switch p.stage {
		case api.StageFront:
			return u == toOpen
		case api.StageOpen, api.StageWhole:
			if u == toTake {
				return true
			}
			fallthrough // what the front told is told of a bad piece, too
		default:
			// What made it bad may have been the front itself.
			return u == toTell && len(p.promised.segs) > 0
		}
	})
}

// there asks whether there is such a segment.
func (p *Piece) there(segment int) question {
	return must(api.ErrArg, func() bool { return segment >= 0 && segment < p.shape.Segs })
}
