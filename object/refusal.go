package object

import "lapidary/api"

// refusal is what a call gives up with.
type refusal struct{ errno api.Errno }

func giveUp(errno api.Errno) { panic(refusal{errno}) }

// caught is the error that a call gives up with, if it does.
func caught(call func()) (errno api.Errno) {
	defer func() {
		if thrown := recover(); thrown != nil {
			errno = told(thrown)
		}
	}()
	call()
	return api.OK
}

// told throws on what is no refusal: a fault of the program is not to pass for an answer.
func told(thrown any) api.Errno {
	x, ok := thrown.(refusal)
	if !ok {
		panic(thrown)
	}
	return x.errno
}
