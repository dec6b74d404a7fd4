package layout

import "lapidary/api"

// kinds is one past the last kind of parts.
const kinds = api.PartSpace + 1

var partNames = [kinds]string{
	api.PartRequest: "request",
	api.PartFront:   "frontier",
	api.PartTrigger: "trigger",
	api.PartAck:     "ack",
	api.PartList:    "list",
	api.PartSpace:   "space",
}

// partNumbers is how many numbers parts of a kind have, Number ahead of At.
var partNumbers = [kinds]int{
	api.PartAck:   1,
	api.PartList:  1,
	api.PartSpace: 2,
}

// numbers parts those that a part has from those that are to be 0 in it.
func numbers(x api.Part) (told, rest []int) {
	all := []int{x.Number, x.At}
	count := partNumbers[x.Kind]
	return all[:count], all[count:]
}

// may asks what no plan is needed for.
func may(x api.Part) bool {
	isKind := within(int(api.PartRequest), int(api.PartSpace))
	if !isKind(int(x.Kind)) {
		return false
	}
	_, rest := numbers(x)
	nought := within(0, 0)
	return nought(rest...)
}
