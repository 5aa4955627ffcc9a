package recipe

import "strongroom/api"

// refusal is what a step gives up with: why it can't be done.
type refusal struct {
	why api.Errno
}

// giveUp leaves all that is going on, up to the face.
func giveUp(why api.Errno) { panic(refusal{why}) }

// sure gives what a step has answered; it gives up, if the step was refused.
func sure[T any](answer T, e api.Errno) T {
	if e != api.OK {
		giveUp(e)
	}
	return answer
}

// answered is the face of what may give up: it gives the answer, or why there is none.
func answered[T any](work func() T) (answer T, e api.Errno) {
	defer func() {
		switch r := recover().(type) {
		case nil:
		case refusal:
			e = r.why
		default:
			// A fault of the program itself is not to be taken for a refusal.
			panic(r)
		}
	}()
	return work(), api.OK
}
