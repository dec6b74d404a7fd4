package graph

import "lapidary/api"

// refusal is what an operation gives up with.
type refusal struct{ errno api.Errno }

func giveUp(errno api.Errno) { panic(refusal{errno}) }

// caught is an operation's answer: the error that it gives up with, if it does.
func caught(do func() api.Out) (out api.Out) {
	defer func() {
		if thrown := recover(); thrown != nil {
			out = api.Out{Err: told(thrown)}
		}
	}()
	return do()
}

// told throws on what is no refusal: a fault of the program is not to pass for an answer.
func told(thrown any) api.Errno {
	x, ok := thrown.(refusal)
	if !ok {
		panic(thrown)
	}
	return x.errno
}
