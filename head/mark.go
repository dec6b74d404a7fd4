package head

import "lapidary/api"

var markNames = [...]string{
	api.MarkWhite: "white",
	api.MarkGrey:  "grey",
	api.MarkBlack: "black",
}

func isMark(m api.Mark) bool { return m >= api.MarkWhite && m <= api.MarkBlack }
