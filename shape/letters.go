package shape

import (
	"strings"

	"lapidary/api"
)

const (
	blank    = " "
	noFields = "-" // a shape without letters would not be seen in a text
)

// letters is made anew for each who asks: no map may stand at package level.
func letters() map[rune]api.Field {
	return map[rune]api.Field{'p': api.FieldPointer, 's': api.FieldScalar}
}

// may asks the length first: every letter has one byte, and a long text is not gone over.
func may(s api.Shape) bool {
	if len(s) > api.MaxFields {
		return false
	}
	known := letters()
	for _, letter := range s {
		if _, ok := known[letter]; !ok {
			return false
		}
	}
	return true
}

func textOf(s api.Shape) string {
	if s == "" {
		return noFields
	}
	return string(s)
}

// ofText takes no empty text, which two blanks in a row would leave between them.
func ofText(text string) (api.Shape, bool) {
	if text == noFields {
		return "", true
	}
	if text == "" || !may(api.Shape(text)) {
		return "", false
	}
	return api.Shape(strings.Clone(text)), true
}
