package shape

import "lapidary/api"

func findShape(l []api.Shape, shape int) (api.Shape, api.Errno) {
	if errno := Check(l...); errno != api.OK {
		return "", errno
	}
	if shape < 0 || shape >= len(l) {
		return "", api.ErrShape
	}
	return l[shape], api.OK
}

func findField(s api.Shape, field int) (api.Field, api.Errno) {
	found, errno := api.Field(0), api.ErrField
fields:
	for at, kind := range All(s) {
		if at == field {
			found, errno = kind, api.OK
			break fields
		}
	}
	return found, errno
}
