package op

import "lapidary/api"

const errorText = "error"

func toldDone(api.Out) string { return "ok" }

func toldObject(o api.Out) string {
	if o.Is {
		return "object"
	}
	return "nothing"
}

func toldIs(o api.Out) string {
	if o.Is {
		return "yes"
	}
	return "no"
}

func toldValue(o api.Out) string { return digits(o.Value) }
