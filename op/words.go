package op

import (
	"iter"
	"strings"
)

const (
	blank = " "

	// mostWords is how many a text has at most: those of cas and of casi.
	mostWords = 5
)

// words has at least one, which may be empty.
func words(s string) iter.Seq[string] {
	return func(yield func(string) bool) {
		word, rest, more := strings.Cut(s, blank)
		for yield(word) && more {
			word, rest, more = strings.Cut(rest, blank)
		}
	}
}

// firstWords leaves at a word too many: one is enough to refuse a text, however many are behind it.
func firstWords(s string) []string {
	var l []string
words:
	for word := range words(s) {
		l = append(l, word)
		if len(l) > mostWords {
			break words
		}
	}
	return l
}
